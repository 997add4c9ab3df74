/-
  term.Names.
-/
import Derived.Test.YtijdlihodpodjaaTrmNm1
import Derived.Test.YtijdlihodpodjaaTrmIter
namespace Go.Proofs.Ytijdlihodpodjaa
open Go.RowKit Go.Shelf Go.Maps Go.Sort Lvl Trm

namespace Trm
/-- Names as bytes rise, each once. -/
abbrev Rises (l : List (List UInt8)) : Prop := l.Pairwise (· < ·)
theorem rises_uniq : ∀ {l m : List (List UInt8)}, Rises l → Rises m → (∀ x, x ∈ l ↔ x ∈ m) → l = m
  | [], [], _, _, _ => rfl
  | [], y :: m, _, _, h => by have := (h y).2 (by simp); cases this
  | x :: l, [], _, _, h => by have := (h x).1 (by simp); cases this
  | x :: l, y :: m, hl, hm, h => by
    obtain ⟨h1, h2⟩ := List.pairwise_cons.1 hl
    obtain ⟨h3, h4⟩ := List.pairwise_cons.1 hm
    have e : x = y := by
      rcases List.mem_cons.1 ((h x).1 (by simp)) with e | hx
      · exact e
      · rcases List.mem_cons.1 ((h y).2 (by simp)) with e | hy
        · exact e.symm
        · exact absurd (h1 y hy) (List.lt_asymm (h3 x hx))
    subst e
    have irr : ∀ z ∈ l, z ≠ x := fun z hz e => List.lt_irrefl x (e ▸ h1 z hz)
    have irr2 : ∀ z ∈ m, z ≠ x := fun z hz e => List.lt_irrefl x (e ▸ h3 z hz)
    rw [rises_uniq h2 h4 (fun z => ⟨fun hz => by
      rcases List.mem_cons.1 ((h z).1 (by simp [hz])) with e | hz2
      · exact absurd e (irr z hz)
      · exact hz2, fun hz => by
      rcases List.mem_cons.1 ((h z).2 (by simp [hz])) with e | hz2
      · exact absurd e (irr2 z hz)
      · exact hz2⟩)]
theorem rises_sort {l : List (List UInt8)} (hn : l.Nodup) : Rises (l.mergeSort leB) := by
  have tr : ∀ a b c : List UInt8, leB a b = true → leB b c = true → leB a c = true := fun a b c h1 h2 => by simp only [leB, decide_eq_true_eq] at *; exact List.le_trans h1 h2
  have to : ∀ a b : List UInt8, (leB a b || leB b a) = true := fun a b => by simp only [leB, Bool.or_eq_true, decide_eq_true_eq]; exact List.le_total a b
  have h1 := List.pairwise_mergeSort tr to l
  have h2 : (l.mergeSort leB).Nodup := (List.mergeSort_perm l leB).nodup_iff.2 hn
  refine (h1.and h2).imp ?_
  rintro a b ⟨h3, h4⟩
  simp only [leB, decide_eq_true_eq] at h3
  by_cases h : a < b
  · exact h
  · exact absurd (List.le_antisymm h3 (List.not_lt.1 h)) h4

/-- A row of strings lies in w, below block B. -/
structure SRow (B : Nat) (w : World) (ao : Option Addr) (l : List (List UInt8)) : Prop where
  place : ∀ k (h : k < l.length), ∃ b off, ao = some ⟨b, off, none⟩ ∧ b < B ∧ w.cell? ⟨b, off + k, none⟩ = some (.string ⟨l[k].toArray⟩)
theorem SRow.below {B : Nat} {w w' : World} {ao : Option Addr} {l : List (List UInt8)} (h : SRow B w ao l) (b : Below B w w') : SRow B w' ao l :=
  ⟨fun k hk => by
    obtain ⟨c, off, hao, hc, hx⟩ := h.place k hk
    exact ⟨c, off, hao, hc, (b.cell (p := ⟨c, _, none⟩) hc).trans hx⟩⟩
theorem SRow.mono {B B' : Nat} {w : World} {ao : Option Addr} {l : List (List UInt8)} (h : SRow B w ao l) (hB : B ≤ B') : SRow B' w ao l :=
  ⟨fun k hk => by
    obtain ⟨c, off, hao, hc, hx⟩ := h.place k hk
    exact ⟨c, off, hao, by omega, hx⟩⟩
theorem SRow.carry {w w' : World} {ao : Option Addr} {l : List (List UInt8)} (h : SRow w.heap.size w ao l) (b : Below w.heap.size w w') : SRow w'.heap.size w' ao l := (h.below b).mono b.size
theorem row_strs {w : World} {base n : Nat} {v : Value} {l : List (List UInt8)} (hn : n = l.length) (h : w.ownsRow base 9 1 v n (l.map encStr)) : ∃ ao cap, v = .slice ao l.length cap ∧ SRow w.heap.size w ao l := by
  subst hn
  have h0 := h
  obtain ⟨hl, ⟨hv, hn0⟩ | ⟨g, cap, cur, rfl, hb, hg, hm, hmx, hs, ht⟩⟩ := h
  · have e : l.length = 0 := hn0
    exact ⟨none, 0, by rw [hv, e], ⟨fun k hk => by omega⟩⟩
  · have hgl : g < w.heap.size := (Array.getElem?_eq_some_iff.1 hg).1
    refine ⟨some ⟨g, 0, none⟩, cap, rfl, ⟨fun k hk => ⟨g, 0, rfl, hgl, ?_⟩⟩⟩
    rw [Nat.zero_add, h0.cellAt k (by omega), List.getElem?_map, List.getElem?_eq_getElem hk]
    rfl

/-- What Names answers of a term that may be. -/
def NamesPost (t : Tm) (w : World) (e : Ending) (w' : World) : Prop := ∃ ao cap l, e = .returned (.slice ao l.length cap) ∧ SRow w'.heap.size w' ao l ∧ Rises l ∧ (∀ x, x ∈ l ↔ x ∈ t.nms) ∧ Below w.heap.size w w'
end Trm

set_option maxRecDepth 100000 in
set_option maxHeartbeats 4000000 in
theorem Names_yes (t : Tm) (h : Hd) (w : World) (hin : t.In w.heap.size w h) (hmay : t.may = true) :
    Calls Try.prog 22 #[t.val h] w (NamesPost t w) := by
  have HM := Lib.hid (fun (W : World) (hW : Below w.heap.size w W) => (show Calls Try.prog 14 #[t.val h] W fun e w' => e = .returned (.bool true) ∧ Below W.heap.size W w' from hmay ▸ PMay_any t h W (Tm.In.mono hW.size _ _ (Tm.In.below hW _ _ hin))))
  have HIN := Lib.hid hin
  have HX0 := Lib.hid (World.alloc_heap_new w (t.box h))
  have hsz : t.nms.length ≤ 65536 := by have h1 := nms_size t; have h2 := count_ge t; unfold Tm.count at h2; rw [if_pos hmay] at h2; omega
  have HW := Lib.hid (fun (W : World) (m : Nat) (hm : w.heap.size < m) (hm2 : m < W.heap.size) (hb : Below (w.heap.size + 1) (w.alloc (t.box h)) W) (hown : W.ownsMap Try.prog 9 (plainElem Try.prog 4) m 0 (DN [])) (hC : W.heap[m + 1]? = some (.cells #[.map (some m)] 89)) =>
    (show Calls Try.prog 70 #[.pointer (some ⟨w.heap.size, 0, none⟩), .func (.func 76) #[] #[.pointer (some ⟨m + 1, 0, none⟩)]] W (fun e w' => e = .returned (.bool true) ∧ NInv m (m + 1) t.nms w' ∧ Ran m W w') from by
      have hbx : W.heap[w.heap.size]? = some (t.box h) := (hb.block _ (by omega)).trans (World.alloc_heap_new w _)
      have h1 := walk_any (sees_names t.nms hsz (B := w.heap.size + 1) (m := m) (C := m + 1) (by omega) (by omega)) t [] w.heap.size 0 W (fun x hx => by cases hx) ⟨by exact own_exact hown, hC⟩ ⟨OkMay.start hmay, fun x hx => hx⟩ ⟨by omega, by omega, h, Tm.cells hbx, Tm.In.mono (by omega) _ _ (Tm.In.below ((below_one w (t.box h)).trans (hb.mono (by omega))) _ _ hin)⟩ (by omega) hm2
      rw [Tm.walk_names] at h1
      exact h1))
  have hmm := @run_makeMap Try.prog
  unfold Tm.val at HM ⊢
  unfold Tm.box at HW HX0
  dsimp only [Tm.vals] at HM HW HX0 ⊢
  clear hin hmay
  go_enter Try.func22, Try.ntmps22
  go_wp2_with fail
  refine (HM.out _ (below_one w _)).mono ?_
  rintro e w1 ⟨rfl, b1⟩
  have HB1 := Lib.hid b1
  have hz1 := b1.size
  clear b1
  go_wp2_with fail
  have hown0 : ((w1.alloc (.map #[] 0)).alloc (.cells #[.map (some w1.heap.size)] 89)).ownsMap Try.prog 9 (plainElem Try.prog 4) w1.heap.size 0 (DN []) := (World.ownsMap_made w1 Try.prog _ _).alloc _
  have hC0 : ((w1.alloc (.map #[] 0)).alloc (.cells #[.map (some w1.heap.size)] 89)).heap[w1.heap.size + 1]? = some (.cells #[.map (some w1.heap.size)] 89) := new2 w1 (.map #[] 0) _
  have hb2 := below_two w1 (.map #[] 0) (.cells #[.map (some w1.heap.size)] 89)
  have hbA : Below (w.heap.size + 1) _ w1 := HB1.out.mono (by simp)
  have HB2 := Lib.hid (hb2.mono (B' := w.heap.size) (by simp at hz1; omega))
  refine (HW.out _ w1.heap.size (by simp at hz1; omega) (by simp; omega) (hbA.trans (hb2.mono (by simp at hz1; omega))) hown0 hC0).mono ?_
  clear hown0 hC0 hb2
  rintro e w3 ⟨rfl, hinv, hran⟩
  obtain ⟨hown3, hC3⟩ := hinv
  have hm1 : w.heap.size < w1.heap.size := by simp at hz1; omega
  have HB3 := Lib.hid (show Below w.heap.size w w3 from ((below_one w _).trans (HB1.out.mono (by simp))).trans (HB2.out.trans (hran.below (by omega) (by simp; omega))))
  generalize w1.heap.size = m at hown3 hC3 hm1 hran HW ⊢
  have hc3 := Lvl.one_cell hC3
  have HS := Lib.hid ((callsIn_wide (n := 5)).1 (Try.slices_Sorted_keys_77_78 m _ (DN t.nms) (plainElem Try.prog 4) w3 hown3 (by have := DN_size (st := t.nms) (Ns := t.nms) (fun x h => h); unfold maxLen; omega) (by have := DN_size (st := t.nms) (Ns := t.nms) (fun x h => h); omega)))
  have HK := Lib.hid ((callsIn_wide (n := 5)).1 (Try.maps_Keys_78 (some m) w3))
  clear hown3 hran hC3 HW
  go_wp2_with fail
  refine HK.out.mono ?_
  rintro e w4 ⟨rfl, rfl⟩
  go_wp2_with fail
  refine HS.out.mono ?_
  rintro e w5 ⟨v, ss, rfl, hperm, hrow, _, hb5⟩
  have hlen : ss.length = (ss.mergeSort leB).length := (List.mergeSort_perm ss leB).length_eq.symm
  obtain ⟨ao, cap, rfl, hsr⟩ := row_strs hlen hrow
  have HSR := Lib.hid hsr
  have HB5 := Lib.hid (show Below w.heap.size w w5 from HB3.out.trans ((below_one w3 _).mono HB3.out.size |>.trans (hb5.mono (by have := HB3.out.size; simp; omega))))
  have HRI := Lib.hid (show Rises (ss.mergeSort leB) from rises_sort (hperm.nodup_iff.2 (DN_nodup _)))
  have HME := Lib.hid (show ∀ x, x ∈ ss.mergeSort leB ↔ x ∈ t.nms from fun x => by rw [(List.mergeSort_perm ss leB).mem_iff, hperm.mem_iff, DN_strKeys])
  clear hrow hperm hb5 hsr hlen
  generalize ss.mergeSort leB = l at HSR HRI HME ⊢
  go_wp2_with fail
  go_ret
  exact ⟨ao, cap, _, rfl, HSR.out, HRI.out, HME.out, HB5.out⟩
end Go.Proofs.Ytijdlihodpodjaa
