/-
  subst.sizesOf.
-/
import Derived.Test.YtfechgahafbphaaSubInstMath
import Derived.Test.YtfechgahafbphaaTrmWorks
import Derived.Deep.OwnRows
namespace Go.Proofs.Ytfechgahafbphaa
open Go.RowKit Go.Shelf Lvl Trm

theorem Trm.infoI : (Try.prog.info? 3).map (fun i => (i.zero, i.size, i.bytes)) = some (some (.int .i64 0), 1, 8) := by kernel_rfl
/-- The sizes of the terms of a list. -/
def Trm.sizeAt (l : List Tm) (i : Nat) : Value := .int .i64 (l.getD i zeroT).size

def Trm.SzRel (w : World) (l : List Tm) (i : Value) (wr : World) : Prop :=
  ∃ k : Nat, i = .int .i64 k ∧ k ≤ l.length ∧ Below w.heap.size w wr ∧ wr.rowIs w.heap.size 3 l.length (fun j => if j < k then sizeAt l j else .int .i64 0) ∧ (∀ j, ∀ h : j < l.length, j < k → l[j].may = true)

/-- What sizesOf answers. -/
def Trm.SzPost (w : World) (l : List Tm) (e : Ending) (w' : World) : Prop :=
  Below w.heap.size w w' ∧ ((l.all Tm.may = true ∧ ∃ G, e = .returned (.tuple #[.slice (some ⟨G, 0, none⟩) l.length l.length, .bool true]) ∧ w.heap.size ≤ G ∧ w'.rowIs G 3 l.length (sizeAt l)) ∨ (l.all Tm.may = false ∧ e = .returned (.tuple #[.slice none 0 0, .bool false])))

set_option maxRecDepth 100000 in
set_option maxHeartbeats 2000000 in
theorem sizesOf_any (l : List Tm) (lo : Option Addr) (lc : Nat) (w : World) (hl : RowIn w.heap.size w lo 0 l) (hn : l.length ≤ 1000000) :
    Calls Try.prog 130 #[.slice lo l.length lc] w (SzPost w l) := by
  have HL := Lib.hid hl
  have hmk := run_make_row' (P := Try.prog) 138 3 (.int .i64 0) 8 Try.underlying138 infoI rfl .i64 .i64 l.length (by omega) (by omega)
  have HR0 := Lib.hid (World.rowIs_made w (.int .i64 0) l.length 3)
  have HB0 := Lib.hid (below_one w (.cells (madeCells #[.int .i64 0] l.length) 3))
  clear hl
  go_enter Try.func130, Try.ntmps130
  go_wp2_with fail
  go_loopw [12] (fun i wr => SzRel w l i wr) (fun i _ => l.length - (intOf i).toNat)
  case atStart => exact ⟨0, rfl, by omega, HB0.out, HR0.out.congr (fun i _ => by simp), fun j h hj => by omega⟩
  case round =>
    clear HR0 HB0 hmk
    obtain ⟨k, rfl, hk, hbel, hrow, hmay⟩ := hrel
    have HB := Lib.hid hbel
    have HR := Lib.hid hrow
    have HM := Lib.hid hmay
    have hGl := hrow.lt
    clear hbel hrow hmay
    by_cases hlt : k < l.length
    · obtain ⟨b, off, rfl, hat⟩ := HL.out.place k hlt
      obtain ⟨hb, h, hc, hi⟩ := hat
      have hc' := hc.below HB.out hb
      have hi' := Tm.In.below HB.out _ _ hi
      rw [Nat.zero_add] at hc'
      obtain ⟨c0, c1, c2, c3, c4⟩ := hc'
      have HI := Lib.hid hi'
      have hbz := HB.out.size
      have HS := Lib.hid (fun (W : World) (hW : Below wr.heap.size wr W) => PSize_any l[k] h W (Tm.In.mono (by have := hW.size; omega) _ _ (Tm.In.below (hW.mono hbz) _ _ HI.out)))
      clear hc hi hi'
      have hb2 : b < wr.heap.size := by omega
      have hkG : (fun j => if j < k then sizeAt l j else .int .i64 0) k = .int .i64 0 := by simp
      have HMK := Lib.hid (show sizeAt l k = .int .i64 l[k].size by simp [sizeAt, List.getD, hlt])
      have HMA : Hid (l[k].may = false → l.all Tm.may = false) := Lib.hid (fun hh => by
        rw [List.all_eq_false]
        exact ⟨_, List.getElem_mem hlt, by simp [hh]⟩)
      have HCT : Hid (l[k].count = if l[k].may = true then l[k].size else 0) := Lib.hid rfl
      have hpos := l[k].size_pos
      generalize hx : l[k] = x at HS HMK HMA HCT hpos c0 c1 c2 c3 c4 HI
      unfold Tm.val at HS
      dsimp only [Tm.vals] at HS
      have HBX := Lib.hid (below_one wr (x.box h))
      cases hm : x.may
      · have hct : x.count = 0 := by rw [HCT.out, hm]; rfl
        rw [hct] at HS
        have HALL := Lib.hid (HMA.out hm)
        clear hct hm hx
        go_wp2_with fail
        refine (HS.out _ HBX.out).mono ?_
        rintro e w3 ⟨rfl, b3⟩
        have hb3 := Trm.go HBX.out b3
        have hr3 := HR.out.of_block (hb3.block _ hGl)
        have q0 := (hr3.cell hlt).trans (congrArg some hkG)
        have f0 := hr3.frozen k
        have hz3 := hb3.size
        have HR3 := Lib.hid hr3
        have HB3 := Lib.hid (HB.out.trans (hb3.mono hbz))
        have hGl3 : w.heap.size < w3.heap.size := by omega
        clear b3 hb3 hr3 c0 c1 c2 c3 c4
        go_wp2_with fail
        refine bodyPost_ret (v := .tuple #[.slice none 0 0, .bool false]) (by simp [results, Try.results130, go_sem]) rfl ?_
        exact ⟨HB3.out.trans ((Ran.set w3 w.heap.size k _).below (Nat.le_refl _) (by omega)), Or.inr ⟨HALL.out, rfl⟩⟩
      · have hct : x.count = x.size := by rw [HCT.out, hm]; rfl
        rw [hct] at HS
        have hne : (x.size == 0) = false := by simp; omega
        clear hct
        go_wp2_with fail
        refine (HS.out _ HBX.out).mono ?_
        rintro e w3 ⟨rfl, b3⟩
        have hb3 := Trm.go HBX.out b3
        have hr3 := HR.out.of_block (hb3.block _ hGl)
        have q0 := (hr3.cell hlt).trans (congrArg some hkG)
        have f0 := hr3.frozen k
        have hz3 := hb3.size
        have HR3 := Lib.hid hr3
        have HB3 := Lib.hid (HB.out.trans (hb3.mono hbz))
        have hGl3 : w.heap.size < w3.heap.size := by omega
        clear b3 hb3 hr3 c0 c1 c2 c3 c4
        go_wp2_with fail
        go_roundw
        case rel =>
          refine ⟨k + 1, by go_num, by omega, HB3.out.trans ((Ran.set w3 w.heap.size k _).below (Nat.le_refl _) (by omega)), (HR3.out.set k _).congr (fun j hj => ?_), fun j h hj => ?_⟩
          · by_cases hjk : j = k
            · subst hjk
              rw [if_pos rfl, if_pos (by omega)]
              exact HMK.out.symm
            · rw [if_neg hjk]
              by_cases hj2 : j < k
              · rw [if_pos hj2, if_pos (by omega)]
              · rw [if_neg hj2, if_neg (by omega)]
          · by_cases hjk : j = k
            · subst hjk
              rw [hx]; exact hm
            · exact HM.out j h (by omega)
        case measure => simp [intOf]; omega
    · have hkn : k = l.length := by omega
      subst hkn
      have HALL : Hid (l.all Tm.may = true) := Lib.hid (by
        rw [List.all_eq_true]
        intro y hy
        obtain ⟨i, hi, rfl⟩ := List.getElem_of_mem hy
        exact HM.out i hi hi)
      go_wp2_with fail
      refine bodyPost_ret (v := .tuple #[.slice (some ⟨w.heap.size, 0, none⟩) l.length l.length, .bool true]) (by simp [results, Try.results130, go_sem]) rfl ?_
      exact ⟨HB.out, Or.inl ⟨HALL.out, _, rfl, Nat.le_refl _, HR.out.congr (fun i hi => by simp [hi])⟩⟩
end Go.Proofs.Ytfechgahafbphaa
