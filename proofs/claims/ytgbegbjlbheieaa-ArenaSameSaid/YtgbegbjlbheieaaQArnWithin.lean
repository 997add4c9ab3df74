/-
  battenlaw05.within: all terms that a term is made of, and itself, behind others, each once.
-/
import Derived.Test.YtgbegbjlbheieaaQArnTree1
import Derived.Test.YtgbegbjlbheieaaQB5
import Derived.Deep.AppendLies
namespace Go.Proofs.Ytgbegbjlbheieaa
open Go.RowKit Go.Shelf Go.Maps Lvl Trm Arn

namespace Arn
theorem own_row_cells {w : World} {base n : Nat} {v : Value} {ps : List (Tm × Hd)} (hn : n = ps.length) (h : w.ownsRow base 26 5 v n (flat ps)) {i : Nat} (hi : i < ps.length) : ∃ g cap, v = .slice (some ⟨g, 0, none⟩) ps.length cap ∧ TCells w g (i * 5) ps[i].1 ps[i].2 ∧ g < w.heap.size := by
  subst hn
  rcases h.2 with ⟨_, h0⟩ | ⟨g, cap, cur, rfl, hb, hg, _⟩
  · omega
  · refine ⟨g, cap, rfl, ?_, (Array.getElem?_eq_some_iff.1 hg).1⟩
    have key : ∀ j u, j < 5 → ((ps[i].1.vals ps[i].2).toList)[j]? = some u → w.cell? ⟨g, i * 5 + j, none⟩ = some u := fun j u hj hu => by
      have h1 := h.cells (g := g) rfl (i * 5 + j) u (by rw [flat_at ps i hi j hj]; simpa using hu)
      rw [Addr.add_mid] at h1
      simpa using h1
    exact ⟨key 0 _ (by omega) rfl, key 1 _ (by omega) rfl, key 2 _ (by omega) rfl, key 3 _ (by omega) rfl, key 4 _ (by omega) rfl⟩
theorem grown_ran5 {P : Nat → Prop} {w w' : World} {row : Option Nat} (h : w.grownBy w' row) (hP : ∀ q, row = some q → P q) : RanS P w w' :=
  ⟨h.os, h.tape, h.output, h.size, fun k hk hn => h.block k hk (fun e => hn (hP k e.symm))⟩
/-- A slice of the call's own, of terms that were there when it began. -/
structure WRow (B b0 : Nat) (w : World) (L : List Tm) (v : Value) (ps : List (Tm × Hd)) : Prop where
  row : w.ownsRow b0 26 5 v ps.length (flat ps)
  map : ps.map (·.1) = L
  lie : ∀ p ∈ ps, p.1.In B w p.2
  le : B ≤ b0
  b0le : b0 ≤ w.heap.size
theorem WRow.len {B b0 : Nat} {w : World} {L : List Tm} {v : Value} {ps : List (Tm × Hd)} (h : WRow B b0 w L v ps) : ps.length = L.length := by rw [← h.map, List.length_map]
theorem WRow.ran {B b0 : Nat} {w w' : World} {L : List Tm} {v : Value} {ps : List (Tm × Hd)} (h : WRow B b0 w L v ps) (hb : Below B w w') (hv : ∀ q, v.ownBlock = some q → w'.heap[q]? = w.heap[q]?) : WRow B b0 w' L v ps :=
  ⟨ownsRow_same h.row hv, h.map, fun p hp => Tm.In.below hb _ _ (h.lie p hp), h.le, Nat.le_trans h.b0le hb.size⟩
theorem WRow.below {B b0 : Nat} {w w' : World} {L : List Tm} {v : Value} {ps : List (Tm × Hd)} (h : WRow B b0 w L v ps) (b : Below w.heap.size w w') : WRow B b0 w' L v ps :=
  h.ran (b.mono (by have := h.le; have := h.b0le; omega)) fun q hq => b.block q (h.row.lt q hq).2
/-- What within makes of a slice. -/
def WPost (B b0 : Nat) (w : World) (L : List Tm) (v : Value) (e : Ending) (w' : World) : Prop :=
  ∃ v' ps', e = .returned v' ∧ WRow B b0 w' L v' ps' ∧ (∀ q, v'.ownBlock = some q → v.ownBlock = some q ∨ w.heap.size ≤ q) ∧ RanS (fun q => v.ownBlock = some q) w w'
theorem ran_low {B b0 : Nat} {w w' : World} {L : List Tm} {v : Value} {ps : List (Tm × Hd)} (h : WRow B b0 w L v ps) (hr : RanS (fun q => v.ownBlock = some q) w w') : Below B w w' :=
  hr.below (fun q hq => by have := (h.row.lt q hq).1; have := h.le; omega) (by have := h.le; have := h.b0le; omega)
/-- Behind some of the parts. -/
def WRel (B b0 : Nat) (w : World) (o : Obj) (t : Tm) (L : List Tm) (v0 : Value) (v i : Value) (wr : World) : Prop :=
  ∃ (k : Nat) (ps : List (Tm × Hd)), i = .int .i64 k ∧ k ≤ t.ts.length ∧ WRow B b0 wr (insL (t.ts.take k) L) v ps ∧ (∀ q, v.ownBlock = some q → v0.ownBlock = some q ∨ w.heap.size < q) ∧ RanS (fun q => v0.ownBlock = some q) w wr ∧ wr.heap[w.heap.size]? = some o
/-- None of the first ones is it. -/
def WRel2 (w2 : World) (t : Tm) (ps : List (Tm × Hd)) (i : Value) (wr : World) : Prop :=
  ∃ k : Nat, i = .int .i64 k ∧ k ≤ ps.length ∧ (∀ j (h : j < ps.length), j < k → ps[j].1 ≠ t) ∧ Below w2.heap.size w2 wr
theorem vals_one5 (y : Tm) (hy : Hd) : ∀ q ∈ (y.vals hy).toList, q.oneCell' = true := fun q hq => by
  simp [Tm.vals] at hq
  rcases hq with rfl | rfl | rfl | rfl | rfl <;> rfl
theorem WPost.add {B b0 : Nat} {w wr w2 w5 : World} {L M : List Tm} {t : Tm} {h : Hd} {v u : Value} {ps pk : List (Tm × Hd)} {o : Obj} {g1 cap1 : Nat} (hrow : WRow B b0 w L v ps) (hin : t.In B w h) (hM : M = insL t.ts L) (hn : t ∉ M) (hran : RanS (fun q => v.ownBlock = some q) w wr)
    (hov : ∀ q, u.ownBlock = some q → v.ownBlock = some q ∨ w.heap.size < q) (hrw : WRow B b0 wr M u pk) (hb2 : Below wr.heap.size wr w2) (h5 : w5.ownsRow b0 26 5 (.slice (some ⟨g1, 0, none⟩) (pk.length + 1) cap1) (pk.length + 1) (flat pk ++ (t.vals h).toList))
    (g5 : (w2.alloc o).grownBy w5 u.ownBlock) (hat : u.ownBlock = some g1 ∨ g1 = w2.heap.size + 1) : WPost B b0 w (Tm.ins t L) v (.returned (.slice (some ⟨g1, 0, none⟩) (pk.length + 1) cap1)) w5 := by
  have s1 := hran.size
  have s2 := hb2.size
  have r5 : RanS (fun q => u.ownBlock = some q) wr w5 := ((RanS.of_below hb2).trans (RanS.of_below (below_one _ _))).trans (grown_ran5 g5 (fun q e => e))
  have rall := ranS_go hran r5 (fun q hq => (hov q hq).imp id (fun h => by omega))
  have hbl := ran_low hrow rall
  have hbl2 := ran_low hrw r5
  refine ⟨_, pk ++ [(t, h)], rfl, ⟨?_, ?_, ?_, hrow.le, Nat.le_trans hrow.b0le rall.size⟩, ?_, rall⟩
  · rw [List.length_append, List.length_singleton, show flat (pk ++ [(t, h)]) = flat pk ++ (t.vals h).toList by simp [flat]]
    exact h5
  · rw [List.map_append, hrw.map, ins_eq, ← hM, if_neg hn]
    rfl
  · intro p hp
    rcases List.mem_append.1 hp with hp | hp
    · exact Tm.In.below hbl2 _ _ (hrw.lie p hp)
    · simp at hp
      subst hp
      exact Tm.In.below hbl _ _ hin
  · intro q hq
    injection hq with hq
    have hq2 : g1 = q := hq
    subst hq2
    rcases hat with e | e
    · exact (hov _ e).imp id (fun h => by omega)
    · exact Or.inr (by omega)
end Arn

set_option maxRecDepth 100000 in
set_option maxHeartbeats 8000000 in
theorem within5_any (B b0 : Nat) (t : Tm) : ∀ (w : World) (L : List Tm) (v : Value) (ps : List (Tm × Hd)) (h : Hd), WRow B b0 w L v ps → t.In B w h → (L.length : Int) + t.size ≤ 1000000 →
    Calls Try.prog 28 #[v, t.val h] w (WPost B b0 w (Tm.ins t L) v) := by
  induction t using Tm.ind with
  | h t ih =>
    intro w L v ps h hrow hin hlen
    have HROW := Lib.hid hrow
    have HIN := Lib.hid hin
    have HIH := Lib.hid ih
    have HLEN := Lib.hid hlen
    have hts := hin.fit.ts
    have hBw : B ≤ w.heap.size := by have := hrow.le; have := hrow.b0le; omega
    clear hrow hin ih hlen
    unfold Tm.val Tm.vals
    go_enter Try.func28, Try.ntmps28
    go_wp2_with fail
    have hbx := World.alloc_heap_new w (t.box h)
    go_loopw [0, 5] (fun v' i wr => WRel B b0 w (t.box h) t L v v' i wr) (fun _ i _ => t.ts.length - (intOf i).toNat)
    case atStart => exact ⟨0, ps, rfl, by omega, (by rw [List.take_zero, insL]; exact HROW.out.below (below_one _ _)), fun q hq => Or.inl hq, RanS.of_below (below_one _ _), hbx⟩
    case round =>
      obtain ⟨k, pk, rfl, hk, hrw, hov, hran, hb⟩ := hrel
      have HRW := Lib.hid hrw
      have HOV := Lib.hid hov
      have HRAN := Lib.hid hran
      have HBX := Lib.hid hb
      have hwl : w.heap.size < wr.heap.size := (Array.getElem?_eq_some_iff.1 hb).1
      have HBB := Lib.hid (ran_low HROW.out hran)
      obtain ⟨c0, c1, c2, c3, c4⟩ := Tm.cells hb
      clear hrw hov hran hb hbx
      by_cases hlt : k < t.ts.length
      · obtain ⟨b, off, hao, hbB, hd, hc, hi⟩ := (Tm.In.below HBB.out _ _ HIN.out).kid k hlt
        obtain ⟨k0, k1, k2, k3, k4⟩ := hc
        rw [hao] at c4
        have HX := Lib.hid (HIH.out _ (List.getElem_mem hlt) wr _ u0 pk hd HRW.out hi (by
          have h1 := insL_len (t.ts.take k) L
          have h2 := sizeL_take hlt
          have h3 := HLEN.out
          rw [Tm.size_eq t] at h3
          omega))
        rw [← insL_take hlt] at HX
        clear hi hao
        generalize t.ts[k] = x at k0 k1 k2 k3 k4 HX
        unfold Tm.val Tm.vals at HX
        have HLT := Lib.hid hlt
        go_wp2_with fail
        refine HX.out.mono ?_
        rintro e w1 ⟨v1, ps1, rfl, hw1, hv1, hr1⟩
        have hnw : ¬ u0.ownBlock = some w.heap.size := fun e => by
          rcases HOV.out _ e with h1 | h1
          · have := (HROW.out.row.lt _ h1).2; omega
          · omega
        have HNX : Hid (WRow B b0 w1 (insL (t.ts.take (k + 1)) L) v1 ps1 ∧ (∀ q, v1.ownBlock = some q → v.ownBlock = some q ∨ w.heap.size < q) ∧ RanS (fun q => v.ownBlock = some q) w w1 ∧ w1.heap[w.heap.size]? = some (t.box h)) := Lib.hid ⟨hw1, fun q hq => by
            rcases hv1 q hq with h1 | h1
            · exact HOV.out q h1
            · exact Or.inr (by omega), ranS_go HRAN.out hr1 (fun q hq => (HOV.out q hq).imp id (fun h => by omega)), hr1.keep HBX.out hnw⟩
        have hwk : IntKind.i64.wrap ((k : Int) + 1) = (k : Int) + 1 := IntWalk.i64_in _ (by omega)
        clear hw1 hv1 hr1 hnw HX k0 k1 k2 k3 k4
        go_wp2_with fail
        go_roundw
        case rel => exact ⟨k + 1, ps1, by go_num, HLT.out, HNX.out.1, HNX.out.2.1, HNX.out.2.2.1, HNX.out.2.2.2⟩
        case measure => simp [intOf]; omega
      · obtain ⟨M, hM⟩ : ∃ M, M = insL t.ts L := ⟨_, rfl⟩
        have hrw := HRW.out
        rw [List.take_of_length_le (by omega), ← hM] at hrw
        have HRW2 := Lib.hid hrw
        have HM := Lib.hid hM
        have hpm : (pk.length : Int) ≤ 1000000 := by
          have h1 := insL_len t.ts L
          have h2 := HLEN.out
          have h3 := hrw.len
          rw [Tm.size_eq t] at h2
          rw [hM] at h3
          omega
        have hus : ∃ ao cp, u0 = .slice ao pk.length cp := by
          rcases hrw.row.2 with ⟨hv, h0⟩ | ⟨g, cap, cur, hv, _⟩
          · exact ⟨none, 0, by rw [hv, h0]⟩
          · exact ⟨_, cap, hv⟩
        obtain ⟨ao, cp, rfl⟩ := hus
        have HRET : Hid (∀ w', t ∈ M → Below wr.heap.size wr w' → WPost B b0 w (Tm.ins t L) v (.returned (.slice ao pk.length cp)) w') := Lib.hid (fun w' hin hb => ⟨_, pk, rfl, by
            rw [ins_eq, ← HM.out, if_pos hin]
            exact HRW2.out.below hb, fun q hq => (HOV.out q hq).imp id (fun h => by omega), HRAN.out.trans (RanS.of_below hb)⟩)
        clear hrw hM HRW
        go_wp2_with fail
        clear c0 c1 c2 c3 c4
        obtain ⟨wA, hwA⟩ : ∃ x : World, x = wr := ⟨_, rfl⟩
        subst hwA
        go_loopw [6] (fun i wr2 => WRel2 wA t pk i wr2) (fun i _ => pk.length - (intOf i).toNat)
        case atStart => exact ⟨0, rfl, by omega, fun j _ hj => by omega, Below.refl _ _⟩
        case round =>
          obtain ⟨k2, rfl, hk2, hnot, hb2⟩ := hrel
          have HNOT := Lib.hid hnot
          have HB2 := Lib.hid hb2
          have HBX2 := Lib.hid (Lvl.keep hb2 HBX.out)
          have HRW3 := Lib.hid (HRW2.out.below hb2)
          have hBr : B ≤ wr.heap.size := by have := HRW3.out.le; have := HRW3.out.b0le; omega
          obtain ⟨c0, c1, c2, c3, c4⟩ := Tm.cells HBX2.out
          clear hnot hb2
          by_cases hl2 : k2 < pk.length
          · obtain ⟨g, cap, hsl, hcl, hgl⟩ := own_row_cells rfl HRW3.out.row hl2
            have HLA := Lib.hid (HRW3.out.lie _ (List.getElem_mem hl2))
            have HLB := Lib.hid (Tm.In.below ((ran_low HROW.out HRAN.out).trans (HB2.out.mono (by have := HRAN.out.size; omega))) _ _ HIN.out)
            obtain ⟨a, ha⟩ : ∃ a, a = pk[k2].1 := ⟨_, rfl⟩
            obtain ⟨hh, hhe⟩ : ∃ hh, hh = pk[k2].2 := ⟨_, rfl⟩
            rw [← ha, ← hhe] at hcl HLA
            have HCL := Lib.hid hcl
            obtain ⟨k0, k1, k2', k3, k4⟩ := hcl
            have HAE := Lib.hid ha
            injection hsl with hs1 hs2 hs3
            subst hs1
            have HSM := Lib.hid (fun (W : World) (hW : Below wr.heap.size wr W) => RefSame_any a t hh h W (Tm.In.mono (by have := hW.size; omega) _ _ (Tm.In.below (hW.mono hBr) _ _ HLA.out)) (Tm.In.mono (by have := hW.size; omega) _ _ (Tm.In.below (hW.mono hBr) _ _ HLB.out)))
            have HAM : Hid (same a t = true → t ∈ M) := Lib.hid (fun hs => by
              rw [← same_iff.1 hs, HAE.out, ← HRW2.out.map]
              exact List.mem_map_of_mem (List.getElem_mem hl2))
            have HNE : Hid (same a t = false → ∀ j (h : j < pk.length), j < k2 + 1 → pk[j].1 ≠ t) := Lib.hid (fun hs j hj hjk => by
              by_cases e : j = k2
              · subst e
                rw [← HAE.out]
                exact fun e2 => by rw [same_iff.2 e2] at hs; cases hs
              · exact HNOT.out j hj (by omega))
            obtain ⟨S, hS⟩ : ∃ S, S = same a t := ⟨_, rfl⟩
            rw [← hS] at HSM HAM HNE
            unfold Tm.val Tm.vals at HSM
            clear ha hhe hs2 hs3 hS
            go_wp2_with fail
            go_region_held3 (fun w' => w'.cell? ⟨g, k2 * 5, none⟩ = some (.int .u8 a.k) ∧ w'.cell? ⟨g, k2 * 5 + 1, none⟩ = some (.int .i64 a.n) ∧ w'.cell? ⟨g, k2 * 5 + 2, none⟩ = some (.string a.s) ∧ w'.cell? ⟨g, k2 * 5 + 3, none⟩ = some (.slice hh.lo a.ls.length hh.lc) ∧ w'.cell? ⟨g, k2 * 5 + 4, none⟩ = some (.slice hh.to a.ts.length hh.tc) ∧ w'.cell? ⟨w.heap.size, 0, none⟩ = some (.int .u8 t.k) ∧ w'.cell? ⟨w.heap.size, 1, none⟩ = some (.int .i64 t.n) ∧ w'.cell? ⟨w.heap.size, 2, none⟩ = some (.string t.s) ∧ w'.cell? ⟨w.heap.size, 3, none⟩ = some (.slice h.lo t.ls.length h.lc) ∧ w'.cell? ⟨w.heap.size, 4, none⟩ = some (.slice h.to t.ts.length h.tc))
              (go_keep)
              (first
                | (go_at_call 14; (with_reducible refine (HSM.out _ (Below.refl _ _).drew).mono ?_); rintro e w3 ⟨rfl, bw⟩; have HB3 := Lib.hid (show Below wr.heap.size wr w3 from Lvl.undrew bw); clear bw; obtain ⟨c0, c1, c2, c3, c4⟩ := Tm.cells (Lvl.keep HB3.out HBX2.out); obtain ⟨k0, k1, k2', k3, k4⟩ := HCL.out.below HB3.out hgl))
            have HBW3 := Lib.hid (Trm.go HB2.out HB3.out)
            cases S
            · have hwk : IntKind.i64.wrap ((k2 : Int) + 1) = (k2 : Int) + 1 := IntWalk.i64_in _ (by omega)
              go_wp2_with fail
              go_roundw
              case rel => exact ⟨k2 + 1, by go_num, by omega, HNE.out rfl, HBW3.out⟩
              case measure => simp [intOf]; omega
            · have HR := Lib.hid (HRET.out w3 (HAM.out rfl) HBW3.out)
              go_wp2_with fail
              go_ret
              exact HR.out
          · have htm : t ∉ M := fun hin => by
              rw [← HRW2.out.map] at hin
              obtain ⟨p, hp, rfl⟩ := List.mem_map.1 hin
              obtain ⟨j, hj, rfl⟩ := List.getElem_of_mem hp
              exact HNOT.out j hj (by omega) rfl
            have HTM := Lib.hid htm
            have HLB := Lib.hid (Tm.In.below ((ran_low HROW.out HRAN.out).trans (HB2.out.mono (by have := HRAN.out.size; omega))) _ _ HIN.out)
            obtain ⟨i0, hi, hz0, hz1, hz2⟩ := info_parts infoT
            have hq1 : Hid (pk.length + 1 ≤ maxLen) := Lib.hid (by unfold maxLen; omega)
            have hq2 : Hid ((pk.length + 1) * 80 ≤ 140737488355328) := Lib.hid (by omega)
            clear htm
            go_wp2_with (refine wpList_append_lies _ rfl _ _ _ rfl b0 26 i0 _ 5 80 Try.underlying22 hi hz0 hz1 hz2 rfl (by decide) _ pk.length _ rfl (HRW3.out.row.alloc _) ⟨wr.heap.size, 0, none⟩ 1 1 (t.vals h).toList rfl rfl (World.news_of_block (cs := t.vals h) (t := 26) (fr := (0, 0)) (World.alloc_heap_new wr _)) (vals_one5 t h) Nat.one_pos hq1.out hq2.out (by rw [World.size_alloc]; have := HRW3.out.b0le; omega) (wr.heap.size + 1) (World.size_alloc _ _) ?_; intro g1 cap1 w5 hown5 hg5 hat5 hlt5)
            have HR : Hid (WPost B b0 w (Tm.ins t L) v (.returned (.slice (some ⟨g1, 0, none⟩) (pk.length + 1) cap1)) w5) := Lib.hid (WPost.add HROW.out HIN.out HM.out HTM.out HRAN.out HOV.out HRW2.out HB2.out hown5 hg5 hat5)
            clear hown5 hg5 hat5 hlt5
            go_wp2_with fail
            go_ret
            exact HR.out
end Go.Proofs.Ytgbegbjlbheieaa

