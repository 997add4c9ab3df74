/-
  arena.number: the number of a term that may be; what is missing is handed on.
-/
import Derived.Test.YtjicdmohnfcflaaQArnNumM
import Derived.Deep.RegionHeld3
namespace Go.Proofs.Ytjicdmohnfcflaa
open Go.RowKit Go.Shelf Go.Maps Lvl Trm Arn

theorem infoKey : (Try.prog.info? 73).map (fun i => (i.zero, i.size)) = some (some (.agg #[.string ⟨#[]⟩, .int .u8 0, .int .i64 0, .int .i64 0, .int .i64 0, .int .i64 0, .int .i64 0, .int .i64 0, .int .i64 0, .int .i64 0, .int .i64 0, .int .i64 0, .int .i64 0, .int .i64 0, .int .i64 0, .int .i64 0, .int .i64 0, .int .i64 0, .int .i64 0, .int .i64 0, .int .i64 0, .int .i64 0, .int .i64 0, .int .i64 0, .int .i64 0, .int .i64 0, .int .i64 0, .int .i64 0]), 28) := by kernel_rfl
set_option maxRecDepth 100000 in
set_option maxHeartbeats 8000000 in
theorem number_any (md : Bool) (A : Nat) (t : Tm) : ∀ (w : World) (L : List Tm) (v : Value) (mo : Option Nat) (b o : Nat), Ar w A L v mo → FAt (own A v mo) w b o t → t.may = true → (L.length : Int) + t.size ≤ 200000 →
    Calls Try.prog 28 #[.pointer (some ⟨A, 0, none⟩), .pointer (some ⟨b, o, none⟩), FV md A] w (NumPost md A v mo L t w) := by
  induction t using Tm.ind with
  | h t ih =>
    intro w L v mo b o har hat hm hlen
    have HAR := Lib.hid har
    have HIH := Lib.hid ih
    have HM := Lib.hid hm
    obtain ⟨hb, hnP, h, hc, hf⟩ := hat
    have HC := Lib.hid hc
    have HF := Lib.hid hf
    have HNP := Lib.hid hnP
    have HLEN := Lib.hid hlen
    have hl3 : t.ts.length ≤ 3 := (node_few (may_node hm)).2.1
    obtain ⟨F, hF⟩ : ∃ F, F = FV md A := ⟨_, rfl⟩
    rw [← hF]
    have HFV := Lib.hid hF
    clear har ih hm hc hf hnP hlen hF
    go_enter Try.func28, Try.ntmps28
    go_upto_region 2 with fail
    obtain ⟨W0, hW0⟩ : ∃ W0, W0 = w.alloc (.cells (arrC []) 71) := ⟨_, rfl⟩
    have B0 := Lib.hid (show Below w.heap.size w W0 from hW0 ▸ below_one _ _)
    have HP0 := Lib.hid (show W0.heap[w.heap.size]? = some (.cells (arrC []) 71) from hW0 ▸ World.alloc_heap_new w _)
    rw [show w.alloc (.cells #[.int .i64 0, .int .i64 0, .int .i64 0] 71) = W0 from hW0.symm]
    clear hW0
    obtain ⟨k0, k1, k2, k3, k4⟩ := HC.out.below B0.out hb
    go_wp2_with fail
    clear k0 k1 k2 k3 k4
    go_loopw [20] (fun i wr => NRel md A v mo L t w i wr) (fun i _ => t.ts.length - (intOf i).toNat)
    case atStart => exact ⟨0, v, mo, rfl, by omega, Or.inr (fun y hy => by simp at hy), (by
      have e : insML md (t.ts.take 0) L = L := by unfold insML; cases md <;> simp [insL]
      rw [e]; exact HAR.out.below B0.out (Nat.le_refl _)), fun q hq => Or.inl hq, RanS.of_below B0.out, HP0.out⟩
    case round =>
      obtain ⟨k, vk, mk, rfl, hk, hgot, hark, hown, hran, hpb⟩ := hrel
      have HGOT := Lib.hid hgot
      have HARK := Lib.hid hark
      have HOWN := Lib.hid hown
      have HRAN := Lib.hid hran
      have HPB := Lib.hid hpb
      have hwl : w.heap.size < wr.heap.size := (Array.getElem?_eq_some_iff.1 hpb).1
      have HCK := Lib.hid (HC.out.ranS hran hb HNP.out)
      have HFK := Lib.hid (FirmS.turn (P' := own A vk mk) HF.out hran (fun q hq => (hown q hq).imp id (fun h => by omega)))
      have hnb : Hid (¬ own A vk mk b) := Lib.hid (fun hq => (hown b hq).elim HNP.out (fun h => by omega))
      have hnw : Hid (¬ own A vk mk w.heap.size) := Lib.hid (fun hq => (hown _ hq).elim (fun hq => by have := HAR.out.lt _ hq; omega) (fun h => by omega))
      clear hgot hark hown hran hpb
      by_cases hlt : k < t.ts.length
      · obtain ⟨b2, off, hd, hao, hb2, hn2, hc2, hf2⟩ := FirmS.kid HFK.out hlt
        obtain ⟨k0, k1, k2, k3, k4⟩ := HCK.out
        rw [hao] at k4
        have hym := may_part HM.out (List.getElem_mem hlt)
        have HX := Lib.hid (HIH.out _ (List.getElem_mem hlt) wr _ vk mk b2 (off + k * 5) HARK.out ⟨hb2, hn2, hd, hc2, hf2⟩ hym (by
          have h1 := insML_len md (t.ts.take k) L
          have h2 := sizeL_take hlt
          have h3 := HLEN.out
          rw [Tm.size_eq t] at h3
          omega))
        have h3k : k < 3 := by omega
        rw [← HFV.out] at HX
        clear hc2 hf2 hao hn2 hb2 hym
        go_wp2_with fail
        refine HX.out.mono ?_
        rintro e w1 ⟨he, hmv⟩
        have HMV := Lib.hid hmv
        clear hmv HX k0 k1 k2 k3 k4
        subst he
        obtain ⟨v1, m1, ha1, ho1, hr1⟩ := HMV.out
        have HA1 := Lib.hid ha1
        have HO1 := Lib.hid ho1
        have HR1 := Lib.hid hr1
        have HPB1 := Lib.hid (HR1.out.keep HPB.out hnw.out)
        have s1 := hr1.size
        clear ha1 ho1 hr1
        cases hfd : fndB md (insML md (t.ts.take k) L) t.ts[k]
        · obtain ⟨hmd, hft⟩ := lost rfl HAR.out.ok hlt hfd
          have HRES : Hid (NumPost md A v mo L t w (.returned (.tuple #[.int .i64 0, .bool false])) w1) := Lib.hid (by
            refine ⟨by unfold numI; rw [hft]; rfl, ?_⟩
            have e1 : insM md t L = L := by unfold insM; rw [hmd]; rfl
            rw [e1]
            have hmv := HMV.out
            rw [hmd] at hmv
            change Moved A vk mk L wr w1 at hmv
            exact Moved.go HRAN.out (fun q hq => (HOWN.out q hq).imp id (fun h => ⟨by omega, h.2⟩)) hmv)
          clear hmd hft
          go_wp2_with fail
          exact bodyPost_ret (v := .tuple #[.int .i64 0, .bool false]) (by simp [results, Try.results28, go_sem]) rfl HRES.out
        · have hmem := found_mem hfd
          have HN : Hid (numI md (insML md (t.ts.take k) L) t.ts[k] = (num (insML md (t.ts.take (k + 1)) L) t.ts[k] : Nat)) := Lib.hid ((if_pos hfd).trans (by rw [insML_take hlt]))
          obtain ⟨q, hq⟩ : ∃ q, q = num (insML md (t.ts.take (k + 1)) L) t.ts[k] := ⟨_, rfl⟩
          rw [← hq] at HN
          have HQ := Lib.hid hq
          rw [HN.out]
          have hcell := arrC_cell HPB1.out h3k
          have hfro : w1.frozen? ⟨w.heap.size, k, none⟩ = false := by simp [World.frozen?, HPB1.out]
          have HG1 := Lib.hid (HGOT.out.step hlt hfd)
          clear hq hfd hmem
          have hwk : IntKind.i64.wrap ((k : Int) + 1) = (k : Int) + 1 := IntWalk.i64_in _ (by omega)
          go_wp2_with fail
          go_roundw
          case rel =>
            refine ⟨k + 1, v1, m1, by go_num, hlt, HG1.out, ?_, ?_, ?_, ?_⟩
            · rw [insML_take hlt]
              refine HA1.out.step (P := fun q => q = w.heap.size) (set_ran _ _ _ _ rfl) (fun q hq e => ?_)
              subst e
              rcases HO1.out _ hq with h | h
              · exact hnw.out h
              · omega
            · intro q hq
              have hs : (w1.setCell ⟨w.heap.size, k, none⟩ (.int .i64 q)).heap.size = w1.heap.size := by simp [World.setCell]
              simp only [World.setCell, Array.size_modify]
              rcases HO1.out q hq with h | h
              · exact (HOWN.out q h).imp id (fun h => ⟨h.1, by omega⟩)
              · exact Or.inr ⟨by omega, h.2⟩
            · have h1 := ranS_go HRAN.out HR1.out (fun q hq => (HOWN.out q hq).imp id (fun h => by omega))
              exact ⟨h1.os, h1.tape, h1.output, by have := h1.size; simp [World.setCell]; exact this, fun j hj hn => (RowKit.Below.heap_setCell _ _ _ _ (show j ≠ w.heap.size by omega)).trans (h1.block j hj hn)⟩
            · have e : t.ts.take (k + 1) = t.ts.take k ++ [t.ts[k]'hlt] := List.take_succ_eq_append_getElem hlt
              have e2 : (t.ts.take (k + 1)).map (num (insML md (t.ts.take (k + 1)) L)) = (t.ts.take k).map (num (insML md (t.ts.take k) L)) ++ [q] := by
                rw [HQ.out]
                conv => lhs; rw [e]
                rw [List.map_append, ← e, insML_take hlt, nums_map (insM_prefix md _ _) HGOT.out.mem]
                rfl
              rw [e2, ← arrC_set (by rw [List.length_map, List.length_take]; omega) h3k]
              exact cells_set HPB1.out _
          case measure => simp [intOf]; omega
      · have htk : t.ts.take k = t.ts := List.take_of_length_le (by omega)
        have hmem0 := HGOT.out.mem
        have hark := HARK.out
        have hpb := HPB.out
        rw [htk] at hmem0 hark hpb
        obtain ⟨M, hMe⟩ : ∃ M, M = insML md t.ts L := ⟨_, rfl⟩
        rw [← hMe] at hmem0 hark hpb
        have HME := Lib.hid hMe
        have HMEM := Lib.hid hmem0
        have HARM := Lib.hid hark
        have HML : Hid (M.length ≤ 200000 ∧ M.length ≤ 1000000) := Lib.hid (by
          have h1 := insML_len md t.ts L
          have h3 := HLEN.out
          rw [Tm.size_eq t] at h3
          rw [hMe]
          omega)
        have HKO := Lib.hid (keyOf_any t h b o wr (by omega) HCK.out (HFK.out.here).levels (node_ls (may_node HM.out)) (arr (t.ts.map (num M)) 0) (arr (t.ts.map (num M)) 1) (arr (t.ts.map (num M)) 2))
        have p0 := arrC_cell hpb (k := 0) (by omega)
        have p1 := arrC_cell hpb (k := 1) (by omega)
        have p2 := arrC_cell hpb (k := 2) (by omega)
        have hk2 : Hid ((Try.prog.info? 73).map (·.size) = some (keyT M t).toArray.size) := Lib.hid (by kernel_rfl)
        clear hmem0 hark hpb hMe htk HARK HPB HGOT
        go_wp2_with fail
        refine HKO.out.mono ?_
        rintro e w2 ⟨rfl, b2⟩
        have HB2 := Lib.hid b2
        clear b2 p0 p1 p2 HKO
        go_upto_region 11 with (first
          | (refine wpList_store_row rfl 73 (.tmp 12) (.tmp 43) rfl w2.heap.size (keyT M t).toArray rfl rfl 73 _ (World.alloc_heap_new w2 _) hk2.out rfl (by kernel_rfl) ?_))
        obtain ⟨W4, hW4⟩ : ∃ W4, W4 = (w2.alloc (.cells #[.string ⟨#[]⟩, .int .u8 0, .int .i64 0, .int .i64 0, .int .i64 0, .int .i64 0, .int .i64 0, .int .i64 0, .int .i64 0, .int .i64 0, .int .i64 0, .int .i64 0, .int .i64 0, .int .i64 0, .int .i64 0, .int .i64 0, .int .i64 0, .int .i64 0, .int .i64 0, .int .i64 0, .int .i64 0, .int .i64 0, .int .i64 0, .int .i64 0, .int .i64 0, .int .i64 0, .int .i64 0, .int .i64 0] 73)).setRow w2.heap.size (keyT M t).toArray := ⟨_, rfl⟩
        rw [← hW4]
        have B4 := Lib.hid (show Below w2.heap.size w2 W4 from hW4 ▸ below_setRow (below_one _ _) (Nat.le_refl _) _)
        have HK4 := Lib.hid (show W4.heap[w2.heap.size]? = some (.cells (keyT M t).toArray 73) from hW4 ▸ setRow_heap _ _ _ _ _ _ (World.alloc_heap_new w2 _))
        clear hW4
        have BR4 := Lib.hid (Trm.go HB2.out B4.out)
        have HA4 := Lib.hid (HARM.out.below BR4.out (Nat.le_refl _))
        have HA4d := Lib.hid (HA4.out.below (B := W4.heap.size) (Below.refl _ _).drew (Nat.le_refl _))
        have HR4 : Hid (RanS (own A v mo) w W4) := Lib.hid (HRAN.out.trans (RanS.of_below BR4.out))
        have HO4 : Hid (∀ q, own A vk mk q → own A v mo q ∨ (w.heap.size ≤ q ∧ q < W4.heap.size)) := Lib.hid (fun q hq => (HOWN.out q hq).imp id (fun h => ⟨by omega, by have := BR4.out.size; omega⟩))
        have hlook := look_any HA4d.out HM.out HMEM.out HML.out.2
        obtain ⟨_, c1⟩ := two_cells HA4.out.box
        dsimp only [Act.put, List.setIfInBounds_toArray]
        by_cases hin : t ∈ M
        · rw [if_pos hin, decide_eq_true hin] at hlook
          obtain ⟨q, hq⟩ : ∃ q, q = num M t := ⟨_, rfl⟩
          rw [← hq] at hlook
          have HRES : Hid (∀ w', Below W4.heap.size W4 w' → NumPost md A v mo L t w (.returned (.tuple #[.int .i64 q, .bool true])) w') := Lib.hid (fun w' hb => by
            rw [hq]
            exact post_yes HME.out hin (Moved.go HR4.out HO4.out (Moved.below HA4.out hb)))
          clear hq hin
          refine wp_region_held_drew (S := fun w' => w' = W4.drew) (by kernel_rfl) (rfl) (fun hHeld => ?_)
          refine wpAnyH_take (i := 0) (v := ?vy0) rfl (by kernel_rfl) (by kernel_rfl) (by kernel_rfl) (fun _ _ _ h => h) (Or.inl ⟨by rfl, ?hyy0⟩) (by assumption) ?resty0
          case hyy0 => (intro w' hSw; subst hSw; go_simp <;> with_reducible rfl)
          try simp only [List.getElem_toArray, List.getElem_cons_zero, Act.put, List.setIfInBounds_toArray, List.set_cons_zero, List.set_cons_succ]
          refine wpAnyH_take (i := 1) (v := ?vy1) rfl (by kernel_rfl) (by kernel_rfl) (by kernel_rfl) (fun _ _ _ h => h) (Or.inl ⟨by rfl, ?hyy1⟩) (by assumption) ?resty1
          case hyy1 => (intro w' hSw; subst hSw; go_simp <;> with_reducible rfl)
          try simp only [List.getElem_toArray, List.getElem_cons_succ, List.getElem_cons_zero, Act.put, List.setIfInBounds_toArray, List.set_cons_zero, List.set_cons_succ]
          refine wpAnyH_take (i := 2) (v := ?vy2) rfl (by kernel_rfl) (by kernel_rfl) (by kernel_rfl) (fun _ _ _ h => h) (Or.inl ⟨by rfl, ?hyy2⟩) (by assumption) ?resty2
          case hyy2 => (intro w' hSw; subst hSw; go_simp <;> with_reducible rfl)
          try simp only [List.getElem_toArray, List.getElem_cons_succ, List.getElem_cons_zero, Act.put, List.setIfInBounds_toArray, List.set_cons_zero, List.set_cons_succ]
          refine wpAnyH_take (i := 3) (v := ?vy3) rfl (by kernel_rfl) (by kernel_rfl) (by kernel_rfl) (fun _ _ _ h => h) (Or.inl ⟨by rfl, ?hyy3⟩) (by assumption) ?resty3
          case hyy3 => (intro w' hSw; subst hSw; go_simp <;> with_reducible rfl)
          try simp only [List.getElem_toArray, List.getElem_cons_succ, List.getElem_cons_zero, Act.put, List.setIfInBounds_toArray, List.set_cons_zero, List.set_cons_succ]
          refine wpAnyH_take (i := 4) (v := Value.agg (keyT M t).toArray) rfl (by kernel_rfl) (by kernel_rfl) (by kernel_rfl) (fun _ _ _ h => h) (Or.inl ⟨by rfl, ?hyy4⟩) (by assumption) ?resty4
          case hyy4 => (intro w' hSw; subst hSw; exact exec_load_row 73 (.tmp 12) rfl w2.heap.size rfl 73 _ (0, 0) _ HK4.out Try.underlying73 rfl hk2.out)
          try simp only [List.getElem_toArray, List.getElem_cons_succ, List.getElem_cons_zero, Act.put, List.setIfInBounds_toArray, List.set_cons_zero, List.set_cons_succ]
          refine wpAnyH_take (i := 5) (v := ?vy5) rfl (by kernel_rfl) (by kernel_rfl) (by kernel_rfl) (fun _ _ _ h => h) (Or.inl ⟨by rfl, ?hyy5⟩) (by assumption) ?resty5
          case hyy5 => (intro w' hSw; subst hSw; go_simp <;> with_reducible rfl)
          try simp only [List.getElem_toArray, List.getElem_cons_succ, List.getElem_cons_zero, Act.put, List.setIfInBounds_toArray, List.set_cons_zero, List.set_cons_succ]
          refine wpAnyH_take (i := 6) (v := ?vy6) rfl (by kernel_rfl) (by kernel_rfl) (by kernel_rfl) (fun _ _ _ h => h) (Or.inl ⟨by rfl, ?hyy6⟩) (by assumption) ?resty6
          case hyy6 => (intro w' hSw; subst hSw; go_simp <;> with_reducible rfl)
          try simp only [List.getElem_toArray, List.getElem_cons_succ, List.getElem_cons_zero, Act.put, List.setIfInBounds_toArray, List.set_cons_zero, List.set_cons_succ]
          refine wpAnyH_take (i := 7) (v := ?vy7) rfl (by kernel_rfl) (by kernel_rfl) (by kernel_rfl) (fun _ _ _ h => h) (Or.inl ⟨by rfl, ?hyy7⟩) (by assumption) ?resty7
          case hyy7 => (intro w' hSw; subst hSw; go_simp <;> with_reducible rfl)
          try simp only [List.getElem_toArray, List.getElem_cons_succ, List.getElem_cons_zero, Act.put, List.setIfInBounds_toArray, List.set_cons_zero, List.set_cons_succ]
          refine wpAnyH_take (i := 8) (v := ?vy8) rfl (by kernel_rfl) (by kernel_rfl) (by kernel_rfl) (fun _ _ _ h => h) (Or.inl ⟨by rfl, ?hyy8⟩) (by assumption) ?resty8
          case hyy8 => (intro w' hSw; subst hSw; go_simp <;> with_reducible rfl)
          try simp only [List.getElem_toArray, List.getElem_cons_succ, List.getElem_cons_zero, Act.put, List.setIfInBounds_toArray, List.set_cons_zero, List.set_cons_succ]
          refine wpAnyH_take (i := 9) (v := ?vy9) rfl (by kernel_rfl) (by kernel_rfl) (by kernel_rfl) (fun _ _ _ h => h) (Or.inl ⟨by rfl, ?hyy9⟩) (by assumption) ?resty9
          case hyy9 => (intro w' hSw; subst hSw; go_simp <;> with_reducible rfl)
          try simp only [List.getElem_toArray, List.getElem_cons_succ, List.getElem_cons_zero, Act.put, List.setIfInBounds_toArray, List.set_cons_zero, List.set_cons_succ]
          refine wpAnyH_take (i := 10) (v := ?vy10) rfl (by kernel_rfl) (by kernel_rfl) (by kernel_rfl) (fun _ _ _ h => h) (Or.inl ⟨by rfl, ?hyy10⟩) (by assumption) ?resty10
          case hyy10 => (intro w' hSw; subst hSw; go_simp <;> with_reducible rfl)
          try simp only [List.getElem_toArray, List.getElem_cons_succ, List.getElem_cons_zero, Act.put, List.setIfInBounds_toArray, List.set_cons_zero, List.set_cons_succ]
          refine wpAnyH_done (by kernel_rfl) ?_ _
          clear hlook c1
          go_wp2_with fail
          exact bodyPost_ret (v := .tuple #[.int .i64 q, .bool true]) (by simp [results, Try.results28, go_sem]) rfl (HRES.out _ (Below.refl _ _).drew)
        · rw [if_neg hin, decide_eq_false hin] at hlook
          have HIN := Lib.hid hin
          clear hin
          refine wp_region_held_drew (S := fun w' => w' = W4.drew) (by kernel_rfl) (rfl) (fun hHeld => ?_)
          refine wpAnyH_take (i := 0) (v := ?vn0) rfl (by kernel_rfl) (by kernel_rfl) (by kernel_rfl) (fun _ _ _ h => h) (Or.inl ⟨by rfl, ?hyn0⟩) (by assumption) ?restn0
          case hyn0 => (intro w' hSw; subst hSw; go_simp <;> with_reducible rfl)
          try simp only [List.getElem_toArray, List.getElem_cons_zero, Act.put, List.setIfInBounds_toArray, List.set_cons_zero, List.set_cons_succ]
          refine wpAnyH_take (i := 1) (v := ?vn1) rfl (by kernel_rfl) (by kernel_rfl) (by kernel_rfl) (fun _ _ _ h => h) (Or.inl ⟨by rfl, ?hyn1⟩) (by assumption) ?restn1
          case hyn1 => (intro w' hSw; subst hSw; go_simp <;> with_reducible rfl)
          try simp only [List.getElem_toArray, List.getElem_cons_succ, List.getElem_cons_zero, Act.put, List.setIfInBounds_toArray, List.set_cons_zero, List.set_cons_succ]
          refine wpAnyH_take (i := 2) (v := ?vn2) rfl (by kernel_rfl) (by kernel_rfl) (by kernel_rfl) (fun _ _ _ h => h) (Or.inl ⟨by rfl, ?hyn2⟩) (by assumption) ?restn2
          case hyn2 => (intro w' hSw; subst hSw; go_simp <;> with_reducible rfl)
          try simp only [List.getElem_toArray, List.getElem_cons_succ, List.getElem_cons_zero, Act.put, List.setIfInBounds_toArray, List.set_cons_zero, List.set_cons_succ]
          refine wpAnyH_take (i := 3) (v := ?vn3) rfl (by kernel_rfl) (by kernel_rfl) (by kernel_rfl) (fun _ _ _ h => h) (Or.inl ⟨by rfl, ?hyn3⟩) (by assumption) ?restn3
          case hyn3 => (intro w' hSw; subst hSw; go_simp <;> with_reducible rfl)
          try simp only [List.getElem_toArray, List.getElem_cons_succ, List.getElem_cons_zero, Act.put, List.setIfInBounds_toArray, List.set_cons_zero, List.set_cons_succ]
          refine wpAnyH_take (i := 4) (v := Value.agg (keyT M t).toArray) rfl (by kernel_rfl) (by kernel_rfl) (by kernel_rfl) (fun _ _ _ h => h) (Or.inl ⟨by rfl, ?hyn4⟩) (by assumption) ?restn4
          case hyn4 => (intro w' hSw; subst hSw; exact exec_load_row 73 (.tmp 12) rfl w2.heap.size rfl 73 _ (0, 0) _ HK4.out Try.underlying73 rfl hk2.out)
          try simp only [List.getElem_toArray, List.getElem_cons_succ, List.getElem_cons_zero, Act.put, List.setIfInBounds_toArray, List.set_cons_zero, List.set_cons_succ]
          refine wpAnyH_take (i := 5) (v := ?vn5) rfl (by kernel_rfl) (by kernel_rfl) (by kernel_rfl) (fun _ _ _ h => h) (Or.inl ⟨by rfl, ?hyn5⟩) (by assumption) ?restn5
          case hyn5 => (intro w' hSw; subst hSw; go_simp <;> with_reducible rfl)
          try simp only [List.getElem_toArray, List.getElem_cons_succ, List.getElem_cons_zero, Act.put, List.setIfInBounds_toArray, List.set_cons_zero, List.set_cons_succ]
          refine wpAnyH_take (i := 6) (v := ?vn6) rfl (by kernel_rfl) (by kernel_rfl) (by kernel_rfl) (fun _ _ _ h => h) (Or.inl ⟨by rfl, ?hyn6⟩) (by assumption) ?restn6
          case hyn6 => (intro w' hSw; subst hSw; go_simp <;> with_reducible rfl)
          try simp only [List.getElem_toArray, List.getElem_cons_succ, List.getElem_cons_zero, Act.put, List.setIfInBounds_toArray, List.set_cons_zero, List.set_cons_succ]
          refine wpAnyH_take (i := 7) (v := ?vn7) rfl (by kernel_rfl) (by kernel_rfl) (by kernel_rfl) (fun _ _ _ h => h) (Or.inl ⟨by rfl, ?hyn7⟩) (by assumption) ?restn7
          case hyn7 => (intro w' hSw; subst hSw; go_simp <;> with_reducible rfl)
          try simp only [List.getElem_toArray, List.getElem_cons_succ, List.getElem_cons_zero, Act.put, List.setIfInBounds_toArray, List.set_cons_zero, List.set_cons_succ]
          refine wpAnyH_take (i := 8) (v := ?vn8) rfl (by kernel_rfl) (by kernel_rfl) (by kernel_rfl) (fun _ _ _ h => h) (Or.inl ⟨by rfl, ?hyn8⟩) (by assumption) ?restn8
          case hyn8 => (intro w' hSw; subst hSw; go_simp <;> with_reducible rfl)
          try simp only [List.getElem_toArray, List.getElem_cons_succ, List.getElem_cons_zero, Act.put, List.setIfInBounds_toArray, List.set_cons_zero, List.set_cons_succ]
          refine wpAnyH_take (i := 9) (v := ?vn9) rfl (by kernel_rfl) (by kernel_rfl) (by kernel_rfl) (fun _ _ _ h => h) (Or.inl ⟨by rfl, ?hyn9⟩) (by assumption) ?restn9
          case hyn9 => (intro w' hSw; subst hSw; go_simp <;> with_reducible rfl)
          try simp only [List.getElem_toArray, List.getElem_cons_succ, List.getElem_cons_zero, Act.put, List.setIfInBounds_toArray, List.set_cons_zero, List.set_cons_succ]
          refine wpAnyH_take (i := 10) (v := ?vn10) rfl (by kernel_rfl) (by kernel_rfl) (by kernel_rfl) (fun _ _ _ h => h) (Or.inl ⟨by rfl, ?hyn10⟩) (by assumption) ?restn10
          case hyn10 => (intro w' hSw; subst hSw; go_simp <;> with_reducible rfl)
          try simp only [List.getElem_toArray, List.getElem_cons_succ, List.getElem_cons_zero, Act.put, List.setIfInBounds_toArray, List.set_cons_zero, List.set_cons_succ]
          refine wpAnyH_done (by kernel_rfl) ?_ _
          clear hlook c1
          have hF := HFV.out
          cases md
          · rw [show F = .func (.func 35) #[] #[] from hF]
            clear hF
            go_wp2_with (first
              | (refine wpList_load_row rfl 73 (.tmp 12) rfl w2.heap.size rfl 73 _ (0, 0) _ (show W4.drew.heap[w2.heap.size]? = _ from HK4.out) Try.underlying73 rfl hk2.out ?_))
            refine (absent_any _ _).mono ?_
            rintro e w5 ⟨rfl, b5⟩
            have HRES := Lib.hid (post_no HME.out HIN.out (Moved.go HR4.out HO4.out (Moved.below HA4.out (Lvl.undrew b5))))
            clear b5
            go_wp2_with fail
            exact bodyPost_ret (v := .tuple #[.int .i64 0, .bool false]) (by simp [results, Try.results28, go_sem]) rfl HRES.out
          · rw [show F = .func (.func 29) #[.pointer (some ⟨A, 0, none⟩)] #[] from hF]
            clear hF
            go_wp2_with (first
              | (refine wpList_load_row rfl 73 (.tmp 12) rfl w2.heap.size rfl 73 _ (0, 0) _ (show W4.drew.heap[w2.heap.size]? = _ from HK4.out) Try.underlying73 rfl hk2.out ?_))
            refine (add_any HA4d.out t HM.out HMEM.out HIN.out HML.out.1).mono ?_
            rintro e w5 ⟨rfl, hmv⟩
            have HRES := Lib.hid (post_add HME.out HIN.out (Moved.go (HR4.out.trans (RanS.of_below (Below.refl _ _).drew)) HO4.out hmv))
            clear hmv
            go_wp2_with fail
            exact bodyPost_ret (v := .tuple #[.int .i64 M.length, .bool true]) (by simp [results, Try.results28, go_sem]) rfl HRES.out
end Go.Proofs.Ytjicdmohnfcflaa

