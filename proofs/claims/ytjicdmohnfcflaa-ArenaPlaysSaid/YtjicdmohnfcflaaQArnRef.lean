/-
  battenref05.Arena: a list of terms: Find.
-/
import Derived.Test.YtjicdmohnfcflaaQArnWithin
namespace Go.Proofs.Ytjicdmohnfcflaa
open Go.RowKit Go.Shelf Go.Maps Lvl Trm Arn

namespace Arn
/-- The document's arena: its block, and the slice of its terms. -/
structure RB (B b0 : Nat) (w : World) (bb : Nat) (L : List Tm) (v : Value) (ps : List (Tm × Hd)) : Prop where
  box : w.heap[bb]? = some (.cells #[v] 33)
  row : WRow B b0 w L v ps
  bbB : B ≤ bb
  apart : v.ownBlock ≠ some bb
theorem RB.below {B b0 : Nat} {w w' : World} {bb : Nat} {L : List Tm} {v : Value} {ps : List (Tm × Hd)} (h : RB B b0 w bb L v ps) (b : Below w.heap.size w w') : RB B b0 w' bb L v ps :=
  ⟨Lvl.keep b h.box, h.row.below b, h.bbB, h.apart⟩
end Arn

set_option maxRecDepth 100000 in
set_option maxHeartbeats 8000000 in
theorem RFind_any {B b0 : Nat} {w : World} {bb : Nat} {L : List Tm} {v : Value} {ps : List (Tm × Hd)} (hr : RB B b0 w bb L v ps) (t : Tm) (h : Hd) (hin : t.In B w h) (hlen : (L.length : Int) ≤ 1000000) (hok : OkL L) :
    Calls Try.prog 15 #[.pointer (some ⟨bb, 0, none⟩), t.val h] w fun e w' => e = .returned (.tuple #[.int .i64 ((if t ∈ L then num L t else 0 : Nat) : Int), .bool (decide (t ∈ L))]) ∧ Below w.heap.size w w' := by
  obtain ⟨G, hG⟩ : ∃ G : Value, G = .tuple #[.int .i64 ((if t ∈ L then num L t else 0 : Nat) : Int), .bool (decide (t ∈ L))] := ⟨_, rfl⟩
  rw [← hG]
  have HGY := Lib.hid (show t ∈ L → G = .tuple #[.int .i64 (num L t : Nat), .bool true] from fun hi => by rw [hG, if_pos hi, decide_eq_true hi])
  have HGN := Lib.hid (show t ∉ L → G = .tuple #[.int .i64 0, .bool false] from fun hi => by rw [hG, if_neg hi, decide_eq_false hi]; rfl)
  clear hG
  have HRB := Lib.hid hr
  have HIN := Lib.hid hin
  have hpl := hr.row.len
  have hpm : (ps.length : Int) ≤ 1000000 := by omega
  obtain ⟨ao, cp, rfl⟩ : ∃ ao cp, v = .slice ao ps.length cp := by
    rcases hr.row.row.2 with ⟨hv, h0⟩ | ⟨g, cap, cur, hv, _⟩
    · exact ⟨none, 0, by rw [hv, h0]⟩
    · exact ⟨_, cap, hv⟩
  have HOK := Lib.hid hok
  have HMAP := Lib.hid hr.row.map
  have hBw : B ≤ w.heap.size := by have := hr.row.le; have := hr.row.b0le; omega
  clear hr hin hok
  unfold Tm.val Tm.vals
  go_enter Try.func15, Try.ntmps15
  go_wp2_with fail
  obtain ⟨wA, hwA⟩ : ∃ wA, wA = w.alloc (t.box h) := ⟨_, rfl⟩
  have HBA := Lib.hid (show Below w.heap.size w wA from hwA ▸ below_one _ _)
  have HBX := Lib.hid (show wA.heap[w.heap.size]? = some (t.box h) from hwA ▸ World.alloc_heap_new w _)
  have HRA := Lib.hid (HRB.out.below HBA.out)
  have HINA := Lib.hid (Tm.In.below (HBA.out.mono hBw) _ _ HIN.out)
  unfold Tm.box Tm.vals at hwA
  rw [← hwA]
  clear hwA
  go_loopw [6] (fun i wr2 => WRel2 wA t ps i wr2) (fun i _ => ps.length - (intOf i).toNat)
  case atStart => exact ⟨0, rfl, by omega, fun j _ hj => by omega, Below.refl _ _⟩
  case round =>
    obtain ⟨k2, rfl, hk2, hnot, hb2⟩ := hrel
    have HNOT := Lib.hid hnot
    have HB2 := Lib.hid hb2
    have HBX2 := Lib.hid (Lvl.keep hb2 HBX.out)
    have HR3 := Lib.hid (HRA.out.below hb2)
    have hBr : B ≤ wr.heap.size := by have := HR3.out.row.le; have := HR3.out.row.b0le; omega
    have HINR := Lib.hid (Tm.In.below (hb2.mono (by have := HBA.out.size; omega)) _ _ HINA.out)
    obtain ⟨c0, c1, c2, c3, c4⟩ := Tm.cells HBX2.out
    have d0 := one_cell HR3.out.box
    have hbl : bb < wr.heap.size := (Array.getElem?_eq_some_iff.1 HR3.out.box).1
    clear hnot hb2
    by_cases hl2 : k2 < ps.length
    · obtain ⟨g, cap, hsl, hcl, hgl⟩ := own_row_cells rfl HR3.out.row.row hl2
      have HLA := Lib.hid (HR3.out.row.lie _ (List.getElem_mem hl2))
      obtain ⟨a, ha⟩ : ∃ a, a = ps[k2].1 := ⟨_, rfl⟩
      obtain ⟨hh, hhe⟩ : ∃ hh, hh = ps[k2].2 := ⟨_, rfl⟩
      rw [← ha, ← hhe] at hcl HLA
      have HCL := Lib.hid hcl
      obtain ⟨k0, k1, k2', k3, k4⟩ := hcl
      have HAE := Lib.hid ha
      injection hsl with hs1 hs2 hs3
      subst hs1
      have HSM := Lib.hid (fun (W : World) (hW : Below wr.heap.size wr W) => RefSame_any a t hh h W (Tm.In.mono (by have := hW.size; omega) _ _ (Tm.In.below (hW.mono hBr) _ _ HLA.out)) (Tm.In.mono (by have := hW.size; omega) _ _ (Tm.In.below (hW.mono hBr) _ _ HINR.out)))
      have HNE : Hid (same a t = false → ∀ j (h : j < ps.length), j < k2 + 1 → ps[j].1 ≠ t) := Lib.hid (fun hs j hj hjk => by
        by_cases e : j = k2
        · subst e
          rw [← HAE.out]
          exact fun e2 => by rw [same_iff.2 e2] at hs; cases hs
        · exact HNOT.out j hj (by omega))
      have HYS : Hid (same a t = true → t ∈ L ∧ num L t = k2) := Lib.hid (fun hs => by
        have hkL : k2 < L.length := by rw [← HMAP.out, List.length_map]; exact hl2
        have e1 : L[k2] = t := by
          have h2 : (ps.map (·.1))[k2]'(by rw [List.length_map]; exact hl2) = ps[k2].1 := List.getElem_map _
          rw [← same_iff.1 hs, HAE.out, ← h2]
          simp only [HMAP.out]
        exact ⟨e1 ▸ List.getElem_mem hkL, by rw [← e1]; exact num_at HOK.out hkL⟩)
      obtain ⟨S, hS⟩ : ∃ S, S = same a t := ⟨_, rfl⟩
      rw [← hS] at HSM HNE HYS
      unfold Tm.val Tm.vals at HSM
      clear ha hhe hs2 hs3 hS
      go_wp2_with fail
      go_region_held3 (fun w' => w'.cell? ⟨bb, 0, none⟩ = some (.slice (some ⟨g, 0, none⟩) ps.length cp) ∧ w'.cell? ⟨g, k2 * 5, none⟩ = some (.int .u8 a.k) ∧ w'.cell? ⟨g, k2 * 5 + 1, none⟩ = some (.int .i64 a.n) ∧ w'.cell? ⟨g, k2 * 5 + 2, none⟩ = some (.string a.s) ∧ w'.cell? ⟨g, k2 * 5 + 3, none⟩ = some (.slice hh.lo a.ls.length hh.lc) ∧ w'.cell? ⟨g, k2 * 5 + 4, none⟩ = some (.slice hh.to a.ts.length hh.tc) ∧ w'.cell? ⟨w.heap.size, 0, none⟩ = some (.int .u8 t.k) ∧ w'.cell? ⟨w.heap.size, 1, none⟩ = some (.int .i64 t.n) ∧ w'.cell? ⟨w.heap.size, 2, none⟩ = some (.string t.s) ∧ w'.cell? ⟨w.heap.size, 3, none⟩ = some (.slice h.lo t.ls.length h.lc) ∧ w'.cell? ⟨w.heap.size, 4, none⟩ = some (.slice h.to t.ts.length h.tc))
        (go_keep)
        (first
          | (go_at_call 11; (with_reducible refine (HSM.out _ (Below.refl _ _).drew).mono ?_); rintro e w3 ⟨rfl, bw⟩; have HB3 := Lib.hid (show Below wr.heap.size wr w3 from Lvl.undrew bw); clear bw; obtain ⟨c0, c1, c2, c3, c4⟩ := Tm.cells (Lvl.keep HB3.out HBX2.out); have d0 := one_cell (Lvl.keep HB3.out HR3.out.box); obtain ⟨k0, k1, k2', k3, k4⟩ := HCL.out.below HB3.out hgl))
      have HBW3 := Lib.hid (Trm.go HB2.out HB3.out)
      cases S
      · have hwk : IntKind.i64.wrap ((k2 : Int) + 1) = (k2 : Int) + 1 := IntWalk.i64_in _ (by omega)
        go_wp2_with fail
        go_roundw
        case rel => exact ⟨k2 + 1, by go_num, by omega, HNE.out rfl, HBW3.out⟩
        case measure => simp [intOf]; omega
      · have HR := Lib.hid (Trm.go HBA.out HBW3.out)
        have HE : Hid (G = .tuple #[.int .i64 k2, .bool true]) := Lib.hid (by rw [HGY.out (HYS.out rfl).1, (HYS.out rfl).2])
        go_wp2_with fail
        exact bodyPost_ret (v := .tuple #[.int .i64 k2, .bool true]) (by simp [results, Try.results15, go_sem]) rfl ⟨by rw [HE.out], HR.out⟩
    · have htm : t ∉ L := fun hin => by
        rw [← HMAP.out] at hin
        obtain ⟨p, hp, rfl⟩ := List.mem_map.1 hin
        obtain ⟨j, hj, rfl⟩ := List.getElem_of_mem hp
        exact HNOT.out j hj (by omega) rfl
      have HTM := Lib.hid htm
      have HR := Lib.hid (Trm.go HBA.out HB2.out)
      clear htm
      go_wp2_with fail
      exact bodyPost_ret (v := .tuple #[.int .i64 0, .bool false]) (by simp [results, Try.results15, go_sem]) rfl ⟨by rw [HGN.out HTM.out], HR.out⟩
end Go.Proofs.Ytjicdmohnfcflaa

