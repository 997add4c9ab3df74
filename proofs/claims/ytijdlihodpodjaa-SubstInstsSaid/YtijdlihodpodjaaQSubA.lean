/-
  The mathematics of Inst: terms in the place of the first free variables, and how many nodes come of it.
-/
import Derived.Test.YtijdlihodpodjaaQTrmE
import Derived.Test.YtijdlihodpodjaaQTrmWorks
import Derived.Deep.OwnRows
namespace Go.Proofs.Ytijdlihodpodjaa
open Lvl Trm

namespace Trm
/-- What comes in the place of a free variable. -/
def gInst (l : List Tm) : Int → Int → Tm := fun v u => if h : 0 ≤ v ∧ v < l.length then (l[l.length - 1 - v.toNat]'(by omega)).put (gLift 0 u) 0 else tV (v - l.length + u)
/-- Inst's function: it counts the nodes. -/
def toInst (l : List Tm) : Int → Int → Int → Int × Int × Option Tm := fun n v u =>
  if h : 0 ≤ v ∧ v < l.length then
    if n + ((l[l.length - 1 - v.toNat]'(by omega)).size - 1) > 65536 then (n + ((l[l.length - 1 - v.toNat]'(by omega)).size - 1), 4, none)
    else (n + ((l[l.length - 1 - v.toNat]'(by omega)).size - 1), 0, some (gInst l v u))
  else (n, 0, some (gInst l v u))
theorem toInst_g (l : List Tm) (st v u : Int) (h : (toInst l st v u).2.1 = 0) : (toInst l st v u).2.2.getD (tV (v + u)) = gInst l v u := by
  unfold toInst at h ⊢
  split
  · rename_i hv
    rw [dif_pos hv] at h
    split
    · rename_i h2
      rw [if_pos h2] at h
      exact absurd h (show ¬ ((4 : Int) = 0) by decide)
    · rfl
  · rfl

/-- How many nodes a list of free variables brings. -/
def more (l : List Tm) : List (Int × Int) → Int
  | [] => 0
  | p :: r => (gInst l p.1 p.2).size - 1 + more l r

mutual
theorem size_lift (fr by_ : Int) : ∀ (t : Tm) (u d : Int), OkMay t d → (t.put (gLift fr by_) u).size = t.size
  | .mk k n s ls ts, u, d, ho => by
    rw [Tm.put]
    by_cases hc : k = 2 ∧ u ≤ n
    · rw [if_pos hc, node_var ho.node.1 hc.1]
      unfold gLift ren tV
      rw [Tm.size, Tm.size]
    · rw [if_neg hc, Tm.size, Tm.size, sizeL_lift fr by_ k ts 0 u (d + 1) (fun x hx => ho.down x hx)]
theorem sizeL_lift (fr by_ : Int) (k : Int) : ∀ (ts : List Tm) (i : Nat) (u d : Int), (∀ x ∈ ts, OkMay x d) → sizeL (putL (gLift fr by_) k ts i u) = sizeL ts
  | [], i, u, d, _ => by rw [putL]
  | t :: r, i, u, d, ho => by rw [putL, sizeL, sizeL, size_lift fr by_ t _ d (ho t (by simp)), sizeL_lift fr by_ k r (i + 1) _ d (fun x hx => ho x (by simp [hx]))]
end
theorem more_append (l : List Tm) : ∀ (a b : List (Int × Int)), more l (a ++ b) = more l a + more l b
  | [], b => by simp [more]
  | p :: a, b => by rw [List.cons_append, more, more, more_append l a b]; omega
mutual
theorem size_inst (l : List Tm) : ∀ (t : Tm) (u d : Int), OkMay t d → (t.put (gInst l) u).size = t.size + more l (t.vps u)
  | .mk k n s ls ts, u, d, ho => by
    rw [Tm.put, Tm.vps]
    by_cases hc : k = 2 ∧ u ≤ n
    · have ht := node_var ho.node.1 hc.1
      unfold tV at ht
      injection ht with _ _ _ _ hts
      subst hts
      rw [if_pos hc, if_pos hc, vpsL, Tm.size, sizeL]
      simp only [List.append_nil, more]
      omega
    · rw [if_neg hc, if_neg hc, Tm.size, Tm.size, List.nil_append, sizeL_inst l k ts 0 u (d + 1) (fun x hx => ho.down x hx)]
      omega
theorem sizeL_inst (l : List Tm) (k : Int) : ∀ (ts : List Tm) (i : Nat) (u d : Int), (∀ x ∈ ts, OkMay x d) → sizeL (putL (gInst l) k ts i u) = sizeL ts + more l (vpsL k ts i u)
  | [], i, u, d, _ => by rw [putL, vpsL]; simp [more]
  | t :: r, i, u, d, ho => by
    rw [putL, vpsL, sizeL, sizeL, more_append, size_inst l t _ d (ho t (by simp)), sizeL_inst l k r (i + 1) _ d (fun x hx => ho x (by simp [hx]))]
    omega
end
theorem gInst_size {l : List Tm} (hl : ∀ x ∈ l, x.may = true) {v u : Int} (h : 0 ≤ v ∧ v < l.length) : (gInst l v u).size = (l[l.length - 1 - v.toNat]'(by omega)).size := by
  unfold gInst
  rw [dif_pos h]
  exact size_lift 0 u _ 0 1 (OkMay.start (hl _ (List.getElem_mem _)))
theorem gInst_else {l : List Tm} {v u : Int} (h : ¬ (0 ≤ v ∧ v < l.length)) : (gInst l v u).size = 1 := by
  unfold gInst
  rw [dif_neg h]
  unfold tV
  rw [Tm.size, sizeL]; rfl
theorem more_ge {l : List Tm} : ∀ (ps : List (Int × Int)), 0 ≤ more l ps
  | [] => by simp [more]
  | p :: r => by
    have := (gInst l p.1 p.2).size_pos
    have := more_ge (l := l) r
    rw [more]; omega
theorem runs_inst {l : List Tm} (hl : ∀ x ∈ l, x.may = true) : ∀ (ps : List (Int × Int)) (n : Int), n ≤ 65536 → ((runs (toInst l) n ps).2 = 0 ∨ (runs (toInst l) n ps).2 = 4) ∧ ((runs (toInst l) n ps).2 ≠ 0 → 65536 < n + more l ps)
  | [], n, _ => ⟨Or.inl rfl, fun h => absurd rfl h⟩
  | p :: r, n, hn => by
    have hm := more_ge (l := l) r
    rw [runs, more]
    by_cases hv : 0 ≤ p.1 ∧ p.1 < l.length
    · have hg := gInst_size hl (u := p.2) hv
      by_cases hb : n + ((l[l.length - 1 - p.1.toNat]'(by omega)).size - 1) > 65536
      · have e : toInst l n p.1 p.2 = (n + ((l[l.length - 1 - p.1.toNat]'(by omega)).size - 1), 4, none) := by unfold toInst; rw [dif_pos hv, if_pos hb]
        rw [e, if_neg (show ¬ ((4 : Int) = 0) by decide)]
        exact ⟨Or.inr rfl, fun _ => by rw [hg]; omega⟩
      · have e : toInst l n p.1 p.2 = (n + ((l[l.length - 1 - p.1.toNat]'(by omega)).size - 1), 0, some (gInst l p.1 p.2)) := by unfold toInst; rw [dif_pos hv, if_neg hb]
        rw [e, if_pos rfl]
        obtain ⟨h1, h2⟩ := runs_inst hl r (n + ((l[l.length - 1 - p.1.toNat]'(by omega)).size - 1)) (by omega)
        exact ⟨h1, fun h => by have := h2 h; rw [hg]; omega⟩
    · have e : toInst l n p.1 p.2 = (n, 0, some (gInst l p.1 p.2)) := by unfold toInst; rw [dif_neg hv]
      rw [e, if_pos rfl, gInst_else hv]
      obtain ⟨h1, h2⟩ := runs_inst hl r n hn
      exact ⟨h1, fun h => by have := h2 h; omega⟩

/-- What Inst answers. -/
def instAns (t : Tm) (l : List Tm) : Tm × Int := if t.may = true ∧ l.all Tm.may = true then (if (t.put (gInst l) 0).may = true then (t.put (gInst l) 0, 0) else (zeroT, 4)) else (zeroT, 1)

theorem may_size' {t : Tm} (h : t.may = true) : t.size ≤ 65536 := by
  have h0 : 0 ≤ t.left badMay 65536 4096 := of_decide_eq_true h
  have := t.left_size badMay 65536 4096 h0
  omega
/-- What Inst's going through a term that may be tells. -/
theorem thr_inst {t : Tm} (h : t.may = true) {l : List Tm} (hl : ∀ x ∈ l, x.may = true) :
    ((t.thr (lfFree (toInst l)) t.size 0).2.1 = 0 ∧ (t.thr (lfFree (toInst l)) t.size 0).2.2.getD t = t.put (gInst l) 0) ∨ ((t.thr (lfFree (toInst l)) t.size 0).2.1 = 4 ∧ (t.put (gInst l) 0).may = false) := by
  have h1 := thr_runs (toInst l) t t.size 1 0 (OkMay.start h)
  have h2 := congrArg Prod.snd h1
  dsimp only at h2
  obtain ⟨h3, h4⟩ := runs_inst hl (t.vps 0) t.size (may_size' h)
  rw [← h2] at h3 h4
  rcases h3 with h3 | h3
  · exact Or.inl ⟨h3, thr_put (fun st v u hh => toInst_g l st v u hh) t t.size 1 0 (OkMay.start h) h3⟩
  · refine Or.inr ⟨h3, ?_⟩
    have h5 := h4 (by omega)
    have h6 := size_inst l t 0 1 (OkMay.start h)
    cases hm : (t.put (gInst l) 0).may
    · rfl
    · have := may_size' hm
      omega
end Trm
end Go.Proofs.Ytijdlihodpodjaa

/-
  subst.sizesOf.
-/
namespace Go.Proofs.Ytijdlihodpodjaa
open Go.RowKit Go.Shelf Lvl Trm

theorem Trm.infoI : (Try.prog.info? 3).map (fun i => (i.zero, i.size, i.bytes)) = some (some (.int .i64 0), 1, 8) := by kernel_rfl
/-- The sizes of the terms of a list. -/
def Trm.sizeAt (l : List Tm) (i : Nat) : Value := .int .i64 (l.getD i zeroT).size

def Trm.SzRel (w : World) (l : List Tm) (i : Value) (wr : World) : Prop :=
  ∃ k : Nat, i = .int .i64 k ∧ k ≤ l.length ∧ Below w.heap.size w wr ∧ wr.rowIs w.heap.size 3 l.length (fun j => if j < k then sizeAt l j else .int .i64 0) ∧ (∀ j, ∀ h : j < l.length, j < k → l[j].may = true)

/-- What sizesOf answers. -/
def Trm.SzPost (w : World) (l : List Tm) (e : Ending) (w' : World) : Prop :=
  Below w.heap.size w w' ∧ ((l.all Tm.may = true ∧ ∃ G, e = .returned (.tuple #[.slice (some ⟨G, 0, none⟩) l.length l.length, .bool true]) ∧ w.heap.size ≤ G ∧ w'.rowIs G 3 l.length (sizeAt l)) ∨ (l.all Tm.may = false ∧ e = .returned (.tuple #[.slice none 0 0, .bool false])))

set_option maxRecDepth 100000 in
set_option maxHeartbeats 2000000 in
theorem sizesOf_any (l : List Tm) (lo : Option Addr) (lc : Nat) (w : World) (hl : RowIn w.heap.size w lo 0 l) (hn : l.length ≤ 1000000) :
    Calls Try.prog 94 #[.slice lo l.length lc] w (SzPost w l) := by
  have HL := Lib.hid hl
  have hmk := run_make_row' (P := Try.prog) 50 3 (.int .i64 0) 8 Try.underlying50 infoI rfl .i64 .i64 l.length (by omega) (by omega)
  have HR0 := Lib.hid (World.rowIs_made w (.int .i64 0) l.length 3)
  have HB0 := Lib.hid (below_one w (.cells (madeCells #[.int .i64 0] l.length) 3))
  clear hl
  go_enter Try.func94, Try.ntmps94
  go_wp2_with fail
  go_loopw [12] (fun i wr => SzRel w l i wr) (fun i _ => l.length - (intOf i).toNat)
  case atStart => exact ⟨0, rfl, by omega, HB0.out, HR0.out.congr (fun i _ => by simp), fun j h hj => by omega⟩
  case round =>
    clear HR0 HB0 hmk
    obtain ⟨k, rfl, hk, hbel, hrow, hmay⟩ := hrel
    have HB := Lib.hid hbel
    have HR := Lib.hid hrow
    have HM := Lib.hid hmay
    have hGl := hrow.lt
    clear hbel hrow hmay
    by_cases hlt : k < l.length
    · obtain ⟨b, off, rfl, hat⟩ := HL.out.place k hlt
      obtain ⟨hb, h, hc, hi⟩ := hat
      have hc' := hc.below HB.out hb
      have hi' := Tm.In.below HB.out _ _ hi
      rw [Nat.zero_add] at hc'
      obtain ⟨c0, c1, c2, c3, c4⟩ := hc'
      have HI := Lib.hid hi'
      have hbz := HB.out.size
      have HS := Lib.hid (fun (W : World) (hW : Below wr.heap.size wr W) => PSize_any l[k] h W (Tm.In.mono (by have := hW.size; omega) _ _ (Tm.In.below (hW.mono hbz) _ _ HI.out)))
      clear hc hi hi'
      have hb2 : b < wr.heap.size := by omega
      have hkG : (fun j => if j < k then sizeAt l j else .int .i64 0) k = .int .i64 0 := by simp
      have HMK := Lib.hid (show sizeAt l k = .int .i64 l[k].size by simp [sizeAt, List.getD, hlt])
      have HMA : Hid (l[k].may = false → l.all Tm.may = false) := Lib.hid (fun hh => by
        rw [List.all_eq_false]
        exact ⟨_, List.getElem_mem hlt, by simp [hh]⟩)
      have HCT : Hid (l[k].count = if l[k].may = true then l[k].size else 0) := Lib.hid rfl
      have hpos := l[k].size_pos
      generalize hx : l[k] = x at HS HMK HMA HCT hpos c0 c1 c2 c3 c4 HI
      unfold Tm.val at HS
      dsimp only [Tm.vals] at HS
      have HBX := Lib.hid (below_one wr (x.box h))
      cases hm : x.may
      · have hct : x.count = 0 := by rw [HCT.out, hm]; rfl
        rw [hct] at HS
        have HALL := Lib.hid (HMA.out hm)
        clear hct hm hx
        go_wp2_with fail
        refine (HS.out _ HBX.out).mono ?_
        rintro e w3 ⟨rfl, b3⟩
        have hb3 := Trm.go HBX.out b3
        have hr3 := HR.out.of_block (hb3.block _ hGl)
        have q0 := (hr3.cell hlt).trans (congrArg some hkG)
        have f0 := hr3.frozen k
        have hz3 := hb3.size
        have HR3 := Lib.hid hr3
        have HB3 := Lib.hid (HB.out.trans (hb3.mono hbz))
        have hGl3 : w.heap.size < w3.heap.size := by omega
        clear b3 hb3 hr3 c0 c1 c2 c3 c4
        go_wp2_with fail
        refine bodyPost_ret (v := .tuple #[.slice none 0 0, .bool false]) (by simp [results, Try.results94, go_sem]) rfl ?_
        exact ⟨HB3.out.trans ((Ran.set w3 w.heap.size k _).below (Nat.le_refl _) (by omega)), Or.inr ⟨HALL.out, rfl⟩⟩
      · have hct : x.count = x.size := by rw [HCT.out, hm]; rfl
        rw [hct] at HS
        have hne : (x.size == 0) = false := by simp; omega
        clear hct
        go_wp2_with fail
        refine (HS.out _ HBX.out).mono ?_
        rintro e w3 ⟨rfl, b3⟩
        have hb3 := Trm.go HBX.out b3
        have hr3 := HR.out.of_block (hb3.block _ hGl)
        have q0 := (hr3.cell hlt).trans (congrArg some hkG)
        have f0 := hr3.frozen k
        have hz3 := hb3.size
        have HR3 := Lib.hid hr3
        have HB3 := Lib.hid (HB.out.trans (hb3.mono hbz))
        have hGl3 : w.heap.size < w3.heap.size := by omega
        clear b3 hb3 hr3 c0 c1 c2 c3 c4
        go_wp2_with fail
        go_roundw
        case rel =>
          refine ⟨k + 1, by go_num, by omega, HB3.out.trans ((Ran.set w3 w.heap.size k _).below (Nat.le_refl _) (by omega)), (HR3.out.set k _).congr (fun j hj => ?_), fun j h hj => ?_⟩
          · by_cases hjk : j = k
            · subst hjk
              rw [if_pos rfl, if_pos (by omega)]
              exact HMK.out.symm
            · rw [if_neg hjk]
              by_cases hj2 : j < k
              · rw [if_pos hj2, if_pos (by omega)]
              · rw [if_neg hj2, if_neg (by omega)]
          · by_cases hjk : j = k
            · subst hjk
              rw [hx]; exact hm
            · exact HM.out j h (by omega)
        case measure => simp [intOf]; omega
    · have hkn : k = l.length := by omega
      subst hkn
      have HALL : Hid (l.all Tm.may = true) := Lib.hid (by
        rw [List.all_eq_true]
        intro y hy
        obtain ⟨i, hi, rfl⟩ := List.getElem_of_mem hy
        exact HM.out i hi hi)
      go_wp2_with fail
      refine bodyPost_ret (v := .tuple #[.slice (some ⟨w.heap.size, 0, none⟩) l.length l.length, .bool true]) (by simp [results, Try.results94, go_sem]) rfl ?_
      exact ⟨HB.out, Or.inl ⟨HALL.out, _, rfl, Nat.le_refl _, HR.out.congr (fun i hi => by simp [hi])⟩⟩
end Go.Proofs.Ytijdlihodpodjaa
