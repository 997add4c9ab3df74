/-
  battenlaw05.ArenaPlays: the walk.
-/
import Derived.Test.YtjicdmohnfcflaaQArnPlaysM
import Derived.Test.YtjicdmohnfcflaaQArnWorks
import Derived.Test.YtjicdmohnfcflaaQArnVast
import Derived.Test.YtjicdmohnfcflaaQArnGet2
import Derived.Test.YtjicdmohnfcflaaQArnDeep
namespace Go.Proofs.Ytjicdmohnfcflaa
open Go.RowKit Go.Shelf Go.Maps Lvl Trm Arn

set_option maxRecDepth 100000 in
set_option maxHeartbeats 40000000 in
theorem law_arena_plays (l : List Tm) (lo : Option Addr) (lc : Nat) (ask : List Int) (ao : Option Addr) (ac : Nat) (o : Tm) (oh : Hd) (w00 : World) (hin00 : RowIn w00.heap.size w00 lo 0 l) (hask00 : IAt w00.heap.size w00 ao ask) (ho00 : o.In w00.heap.size w00 oh) :
    Calls Try.prog 3 #[.slice lo l.length lc, .slice ao ask.length ac, o.val oh] w00 fun e w' => e = .returned (.bool true) ∧ Below w00.heap.size w00 w' := by
  obtain ⟨w, hw⟩ : ∃ w, w = w00.alloc (o.box oh) := ⟨_, rfl⟩
  have HB00 := Lib.hid (show Below w00.heap.size w00 w from hw ▸ below_one _ _)
  have hsz : w.heap.size = w00.heap.size + 1 := by rw [hw]; simp
  have HOX := Lib.hid (show w.heap[w00.heap.size]? = some (o.box oh) from hw ▸ World.alloc_heap_new w00 _)
  have hin : RowIn w.heap.size w lo 0 l := Trm.RowIn.mono (Trm.RowIn.below hin00 HB00.out) (by omega)
  have HASK : Hid (IAt w.heap.size w ao ask) := Lib.hid fun k hk => by
    obtain ⟨b, off, e, hb, hc⟩ := (hask00.below HB00.out) k hk
    exact ⟨b, off, e, by omega, hc⟩
  have HOI := Lib.hid (Tm.In.mono (show w00.heap.size ≤ w.heap.size by omega) _ _ (Tm.In.below HB00.out _ _ ho00))
  have HIN := Lib.hid hin
  have HS00 := Lib.hid hsz
  have HV := Lib.hid (Vast_any l lo lc 30 300 w hin (by decide))
  obtain ⟨V, hV⟩ : ∃ V, V = vast l 30 300 := ⟨_, rfl⟩
  rw [← hV] at HV
  have HNV := Lib.hid hV
  have HWK := Lib.hid (fun (W : World) (hW : Below w.heap.size w W) => (works5_any W).mono fun e w' (h : e = .returned (.bool true) ∧ Below W.heap.size W w') => (⟨h.1, Trm.go HB00.out (Trm.go hW h.2)⟩ : e = .returned (.bool true) ∧ Below w00.heap.size w00 w'))
  clear hV hin hsz hin00 hask00 ho00
  unfold Tm.val Tm.vals
  go_enter Try.func3, Try.ntmps3
  unfold Tm.box Tm.vals at hw
  go_upto_region 1 with fail
  rw [← hw]
  clear hw
  go_wp2_with fail
  refine HV.out.mono ?_
  rintro e w1 ⟨rfl, b1⟩
  have H1 := Lib.hid b1
  clear b1 HV
  cases V
  · have hl30 : sizeL l ≤ 300 ∧ l.length ≤ 30 ∧ l.any Tm.deep = false := by
      have h1 := HNV.out
      unfold vast at h1
      have h2 := h1.symm
      simp only [Bool.or_eq_false_iff, decide_eq_false_iff_not] at h2
      obtain ⟨h3, h4, h5⟩ := h2
      exact ⟨by omega, by omega, h4⟩
    have HSZ := Lib.hid hl30.1
    have HDP := Lib.hid hl30.2.2
    have hl3 := hl30.2.1
    clear hl30 HNV
    by_cases ha : 30 < ask.length
    · have ha2 : (30 : Int) < (ask.length : Int) := by omega
      go_wp2_with fail
      refine (HWK.out _ H1.out).mono ?_
      rintro e w7 ⟨rfl, b7⟩
      have H7 := Lib.hid b7
      clear b7
      go_wp2_with fail
      go_ret
      exact ⟨rfl, H7.out⟩
    · have ha2 : ¬ (30 : Int) < (ask.length : Int) := by omega
      have HA30 : Hid (ask.length ≤ 30) := Lib.hid (by omega)
      obtain ⟨x0, x1, x2, x3, x4⟩ := Tm.cells (Lvl.keep H1.out HOX.out)
      obtain ⟨WA, hWA⟩ : ∃ WA, WA = w1.alloc (.cells (o.vals oh) 26) := ⟨_, rfl⟩
      have BA := Lib.hid (show Below w1.heap.size w1 WA from hWA ▸ below_one _ _)
      have B1A := Lib.hid (Trm.go H1.out BA.out)
      have hxA : WA.heap[w1.heap.size]? = some (.cells (o.vals oh) 26) := hWA ▸ World.alloc_heap_new _ _
      have hzA : WA.heap.size = w1.heap.size + 1 := by rw [hWA]; simp
      have hrow : RowIn WA.heap.size WA (some ⟨w1.heap.size, 0, none⟩) 0 [o] := RowIn.mk fun k hk => by
        have hk0 : k = 0 := by simp at hk; omega
        subst hk0
        refine ⟨w1.heap.size, 0, rfl, by omega, oh, ?_, Tm.In.mono B1A.out.size _ _ (Tm.In.below B1A.out _ _ HOI.out)⟩
        exact Tm.cells (b := w1.heap.size) hxA
      have HV2 := Lib.hid (Vast_any [o] (some ⟨w1.heap.size, 0, none⟩) 1 1 300 WA hrow (by decide))
      obtain ⟨V2, hV2⟩ : ∃ V2, V2 = vast [o] 1 300 := ⟨_, rfl⟩
      rw [← hV2] at HV2
      unfold Tm.vals at hWA
      clear hrow hxA hzA hV2
      go_wp2_with fail
      rw [← hWA]
      clear hWA
      refine HV2.out.mono ?_
      rintro e w2 ⟨rfl, b2⟩
      have H2 := Lib.hid (Trm.go B1A.out b2)
      clear b2 HV2 x0 x1 x2 x3 x4
      cases V2
      case true =>
        have HEND := H2
        go_wp2_with fail
        refine (HWK.out _ HEND.out).mono ?_
        rintro e w7 ⟨rfl, b7⟩
        have H7 := Lib.hid b7
        clear b7
        go_wp2_with fail
        go_ret
        exact ⟨rfl, H7.out⟩
      case false =>
        go_wp2_with fail
        refine (New_any _).mono ?_
        rintro e w3 ⟨rfl, hw3⟩
        obtain ⟨W4, hW4⟩ : ∃ W4, W4 = w3.alloc (.cells #[.slice none 0 0] 33) := ⟨_, rfl⟩
        have hp0 := PS.start H2.out
        rw [← hw3, ← hW4] at hp0
        have hbbe : w3.heap.size = w2.heap.size + 1 := by rw [hw3]; simp
        rw [← hbbe] at hp0
        obtain ⟨A, hA⟩ : ∃ A, A = w2.heap.size := ⟨_, rfl⟩
        obtain ⟨bb, hbb⟩ : ∃ bb, bb = w3.heap.size := ⟨_, rfl⟩
        rw [← hA, ← hbb] at hp0
        rw [← hA]
        have HP0 := Lib.hid hp0
        clear hw3 hbbe hA hp0
        go_wp2_with fail
        rw [← hW4, ← hbb]
        clear hW4 hbb
        go_loopw [9] (fun i wr => LRel1 w A bb l i wr) (fun i _ => l.length - (intOf i).toNat)
        case atStart => exact ⟨0, _, _, _, _, rfl, by omega, HP0.out⟩
        case round =>
        obtain ⟨k, va, v, mo, ps, rfl, hk, hp⟩ := hrel
        have HP := Lib.hid hp
        clear hp HP0
        by_cases hlt : k < l.length
        · obtain ⟨b, off, hlo, hbB, hd, hc, hi⟩ := (Trm.RowIn.below HIN.out HP.out.bel).place k hlt
          rw [Nat.zero_add] at hc
          have HI := Lib.hid hi
          have HCL := Lib.hid hc
          have HNB := Lib.hid (NotBad.of (any_deep HDP.out hlt))
          have HCP := Lib.hid (Copy_any l[k] wr hd HNB.out (Tm.In.mono HP.out.bel.size _ _ hi))
          have hplen := puts_len l k
          obtain ⟨k0, k1, k2, k3, k4⟩ := hc
          subst hlo
          have HB := Lib.hid hbB
          have HPT := Lib.hid (puts_take hlt)
          obtain ⟨t, ht⟩ : ∃ t, t = l[k] := ⟨_, rfl⟩
          have HPL : Hid (((puts (l.take k)).length : Int) + 65536 ≤ 200000) := Lib.hid (by have := HSZ.out; omega)
          rw [← ht] at k0 k1 k2 k3 k4 HI HCL HCP HPT HNB
          clear ht hi hbB hplen
          have HLT := Lib.hid hlt
          unfold Tm.val Tm.vals at HCP
          go_wp2_with fail
          refine HCP.out.mono ?_
          rintro e w3 ⟨h3, rfl, f3, b3⟩
          have HB3 := Lib.hid b3
          obtain ⟨W4, hW4⟩ : ∃ W4, W4 = w3.alloc (t.box h3) := ⟨_, rfl⟩
          have B34 := Lib.hid (show Below w3.heap.size w3 W4 from hW4 ▸ below_one _ _)
          have hz4 : W4.heap.size = w3.heap.size + 1 := by rw [hW4]; simp
          have HZ4 := Lib.hid hz4
          have HX4 := Lib.hid (show W4.heap[w3.heap.size]? = some (t.box h3) from hW4 ▸ World.alloc_heap_new w3 _)
          have HP4 := Lib.hid (HP.out.window (Trm.go b3 B34.out))
          have HO4 := Lib.hid ((OT.of f3).below B34.out)
          have HPUT := Lib.hid (Put_any HP4.out.ar t h3 (HP4.out.firm HO4.out (Nat.le_refl _) (by have := HZ4.out; omega)) HPL.out)
          unfold Tm.box Tm.vals at hW4
          unfold Tm.val Tm.vals at HPUT ⊢
          clear f3 b3 hz4 HCP k0 k1 k2 k3 k4
          go_upto_region 11 with fail
          rw [← hW4]
          clear hW4
          obtain ⟨x0, x1, x2, x3, x4⟩ := Tm.cells HX4.out
          go_wp2_with fail
          refine HPUT.out.mono ?_
          rintro e w5 ⟨hy, hn⟩
          clear HPUT x0 x1 x2 x3 x4
          cases hm : t.may
          · obtain ⟨rfl, m5⟩ := hn hm
            have hst : stepL (puts (l.take k)) t = puts (l.take k) := by unfold stepL; rw [if_neg (by rw [hm]; decide)]
            obtain ⟨M, hM⟩ : ∃ M, M = puts (l.take (k + 1)) := ⟨_, rfl⟩
            have hMe : puts (l.take k) = M := by rw [hM, HPT.out, hst]
            have m5 : Moved A va mo M W4 w5 := hMe ▸ m5
            obtain ⟨va5, mo5, hp5, hb5, r5⟩ := HP4.out.putA m5
            have HP5 := Lib.hid hp5
            have HO5 := Lib.hid (HP4.out.otA r5 HO4.out (Nat.le_refl _) (by have := HZ4.out; omega))
            have HX5 := Lib.hid (HP4.out.keepA r5 ⟨HB3.out.size, by have := HZ4.out; omega⟩ HX4.out)
            have HB5 := Lib.hid (show Below w.heap.size wr w5 from ((Trm.go HB3.out B34.out).mono HP.out.bel.size).trans hb5)
            have HRP := Lib.hid (RPut_any HP5.out.rb t hd (Tm.In.below HB5.out _ _ HI.out) (by have := HPL.out; have := HNB.out.size; omega) HP.out.ar.ok)
            obtain ⟨k0, k1, k2, k3, k4⟩ := HCL.out.below HB5.out HB.out
            have HMM := Lib.hid hMe
            have HM := Lib.hid hM
            have HMAY := Lib.hid hm
            unfold Tm.val Tm.vals at HRP
            clear hy hn m5 hst hM hMe hp5 hb5 r5 hm
            go_wp2_with fail
            refine HRP.out.mono ?_
            rintro e w6 ⟨hy6, hn6⟩
            obtain ⟨rfl, m6⟩ := hn6 HMAY.out
            have m6 : RMoved w.heap.size w.heap.size bb v M w5 w6 := HMM.out ▸ m6
            obtain ⟨v6, ps6, hp6, hb6, r6⟩ := HP5.out.putB m6
            have HP6 := Lib.hid hp6
            have HO6 := Lib.hid (HP5.out.otB r6 HO5.out (Nat.le_refl _) (by have := HZ4.out; omega))
            have HX6 := Lib.hid (HP5.out.keepB r6 ⟨HB3.out.size, by have := HZ4.out; omega⟩ HX5.out)
            have HB6 := Lib.hid (show Below w.heap.size wr w6 from HB5.out.trans hb6)
            have HI6 := Lib.hid (Tm.In.below HB6.out _ _ HI.out)
            obtain ⟨ao6, cp6, hv6⟩ := HP6.out.slice
            subst hv6
            have HW6 := Lib.hid hp6.bel.size
            have HLN := Lib.hid (fun (W : World) (hW : Below w6.heap.size w6 W) => Len_any (HP6.out.ar.below hW (Nat.le_refl _)))
            have HK := Lib.hid (fun (W : World) (hW : Below w6.heap.size w6 W) => (show W.cell? ⟨bb, 0, none⟩ = some (.slice ao6 M.length cp6) ∧ W.cell? ⟨w3.heap.size, 0, none⟩ = some (.int .u8 t.k) ∧ W.cell? ⟨w3.heap.size, 1, none⟩ = some (.int .i64 t.n) ∧ W.cell? ⟨w3.heap.size, 2, none⟩ = some (.string t.s) ∧ W.cell? ⟨w3.heap.size, 3, none⟩ = some (.slice h3.lo t.ls.length h3.lc) ∧ W.cell? ⟨w3.heap.size, 4, none⟩ = some (.slice h3.to t.ts.length h3.tc) ∧ W.cell? ⟨b, off + k * 5, none⟩ = some (.int .u8 t.k) ∧ W.cell? ⟨b, off + k * 5 + 1, none⟩ = some (.int .i64 t.n) ∧ W.cell? ⟨b, off + k * 5 + 2, none⟩ = some (.string t.s) ∧ W.cell? ⟨b, off + k * 5 + 3, none⟩ = some (.slice hd.lo t.ls.length hd.lc) ∧ W.cell? ⟨b, off + k * 5 + 4, none⟩ = some (.slice hd.to t.ts.length hd.tc) from by
              obtain ⟨x0, x1, x2, x3, x4⟩ := Tm.cells (Lvl.keep hW HX6.out)
              obtain ⟨y0, y1, y2, y3, y4⟩ := HCL.out.below (HB6.out.trans (hW.mono HW6.out)) HB.out
              exact ⟨one_cell (Lvl.keep hW HP6.out.rb.box), x0, x1, x2, x3, x4, y0, y1, y2, y3, y4⟩))
            have hsame := RefSame_any t t h3 hd
            rw [(same_iff.2 rfl : same t t = true)] at hsame
            have HSM := Lib.hid (fun (W : World) (hW : Below w6.heap.size w6 W) => (show Calls Try.prog 11 #[.agg #[.int .u8 t.k, .int .i64 t.n, .string t.s, .slice h3.lo t.ls.length h3.lc, .slice h3.to t.ts.length h3.tc], .agg #[.int .u8 t.k, .int .i64 t.n, .string t.s, .slice hd.lo t.ls.length hd.lc, .slice hd.to t.ts.length hd.tc]] W fun e w' => e = .returned (.bool true) ∧ Below W.heap.size W w' from
              hsame W (carry HO6.out.here hW) (Tm.In.mono (by have := hW.size; have := HW6.out; omega) _ _ (Tm.In.below (hW.mono HW6.out) _ _ HI6.out))))
            clear hsame
            clear hy6 hn6 m6 hp6 hb6 r6 HRP k0 k1 k2 k3 k4
            go_upto_region 13 with fail
            refine wp_region_held_drew (S := fun w' => w'.cell? ⟨bb, 0, none⟩ = some (.slice ao6 M.length cp6) ∧ w'.cell? ⟨w3.heap.size, 0, none⟩ = some (.int .u8 t.k) ∧ w'.cell? ⟨w3.heap.size, 1, none⟩ = some (.int .i64 t.n) ∧ w'.cell? ⟨w3.heap.size, 2, none⟩ = some (.string t.s) ∧ w'.cell? ⟨w3.heap.size, 3, none⟩ = some (.slice h3.lo t.ls.length h3.lc) ∧ w'.cell? ⟨w3.heap.size, 4, none⟩ = some (.slice h3.to t.ts.length h3.tc) ∧ w'.cell? ⟨b, off + k * 5, none⟩ = some (.int .u8 t.k) ∧ w'.cell? ⟨b, off + k * 5 + 1, none⟩ = some (.int .i64 t.n) ∧ w'.cell? ⟨b, off + k * 5 + 2, none⟩ = some (.string t.s) ∧ w'.cell? ⟨b, off + k * 5 + 3, none⟩ = some (.slice hd.lo t.ls.length hd.lc) ∧ w'.cell? ⟨b, off + k * 5 + 4, none⟩ = some (.slice hd.to t.ts.length hd.tc)) (by kernel_rfl) (HK.out _ (Below.refl _ _).drew) (fun hHeld => ?_)
            refine wpAnyH_take (i := 0) (v := ?vq0) rfl (by kernel_rfl) (by kernel_rfl) (by kernel_rfl) (fun _ _ _ h => h) (Or.inl ⟨by rfl, ?hyq0⟩) (by assumption) ?restq0
            case hyq0 => (intro w' hSw; (try dsimp only at hSw); go_simp <;> with_reducible rfl)
            try simp only [List.getElem_toArray, List.getElem_cons_zero, Act.put, List.setIfInBounds_toArray, List.set_cons_zero, List.set_cons_succ]
            refine wpAnyH_take (i := 1) (v := ?vq1) rfl (by kernel_rfl) (by kernel_rfl) (by kernel_rfl) (fun _ _ _ h => h) (Or.inl ⟨by rfl, ?hyq1⟩) (by assumption) ?restq1
            case hyq1 => (intro w' hSw; (try dsimp only at hSw); go_simp <;> with_reducible rfl)
            try simp only [List.getElem_toArray, List.getElem_cons_succ, List.getElem_cons_zero, Act.put, List.setIfInBounds_toArray, List.set_cons_zero, List.set_cons_succ]
            refine wpAnyH_take (i := 2) (v := ?vq2) rfl (by kernel_rfl) (by kernel_rfl) (by kernel_rfl) (fun _ _ _ h => h) (Or.inl ⟨by rfl, ?hyq2⟩) (by assumption) ?restq2
            case hyq2 => (intro w' hSw; (try dsimp only at hSw); go_simp <;> with_reducible rfl)
            try simp only [List.getElem_toArray, List.getElem_cons_succ, List.getElem_cons_zero, Act.put, List.setIfInBounds_toArray, List.set_cons_zero, List.set_cons_succ]
            refine wpAnyH_take (i := 3) (v := ?vq3) rfl (by kernel_rfl) (by kernel_rfl) (by kernel_rfl) (fun _ _ _ h => h) (Or.inl ⟨by rfl, ?hyq3⟩) (by assumption) ?restq3
            case hyq3 => (intro w' hSw; (try dsimp only at hSw); go_simp <;> with_reducible rfl)
            try simp only [List.getElem_toArray, List.getElem_cons_succ, List.getElem_cons_zero, Act.put, List.setIfInBounds_toArray, List.set_cons_zero, List.set_cons_succ]
            refine wpAnyH_take (i := 4) (v := ?vq4) rfl (by kernel_rfl) (by kernel_rfl) (by kernel_rfl) (fun _ _ _ h => h) (Or.inl ⟨by rfl, ?hyq4⟩) (by assumption) ?restq4
            case hyq4 => (intro w' hSw; (try dsimp only at hSw); go_simp <;> with_reducible rfl)
            try simp only [List.getElem_toArray, List.getElem_cons_succ, List.getElem_cons_zero, Act.put, List.setIfInBounds_toArray, List.set_cons_zero, List.set_cons_succ]
            refine wpAnyH_take (i := 5) (v := ?vq5) rfl (by kernel_rfl) (by kernel_rfl) (by kernel_rfl) (fun _ _ _ h => h) (Or.inl ⟨by rfl, ?hyq5⟩) (by assumption) ?restq5
            case hyq5 => (intro w' hSw; (try dsimp only at hSw); go_simp <;> with_reducible rfl)
            try simp only [List.getElem_toArray, List.getElem_cons_succ, List.getElem_cons_zero, Act.put, List.setIfInBounds_toArray, List.set_cons_zero, List.set_cons_succ]
            refine wpAnyH_take (i := 6) (v := ?vq6) rfl (by kernel_rfl) (by kernel_rfl) (by kernel_rfl) (fun _ _ _ h => h) (Or.inl ⟨by rfl, ?hyq6⟩) (by assumption) ?restq6
            case hyq6 => (intro w' hSw; (try dsimp only at hSw); go_simp <;> with_reducible rfl)
            try simp only [List.getElem_toArray, List.getElem_cons_succ, List.getElem_cons_zero, Act.put, List.setIfInBounds_toArray, List.set_cons_zero, List.set_cons_succ]
            refine wpAnyH_take (i := 7) (v := ?vq7) rfl (by kernel_rfl) (by kernel_rfl) (by kernel_rfl) (fun _ _ _ h => h) (Or.inl ⟨by rfl, ?hyq7⟩) (by assumption) ?restq7
            case hyq7 => (intro w' hSw; (try dsimp only at hSw); go_simp <;> with_reducible rfl)
            try simp only [List.getElem_toArray, List.getElem_cons_succ, List.getElem_cons_zero, Act.put, List.setIfInBounds_toArray, List.set_cons_zero, List.set_cons_succ]
            refine wpAnyH_take (i := 8) (v := ?vq8) rfl (by kernel_rfl) (by kernel_rfl) (by kernel_rfl) (fun _ _ _ h => h) (Or.inl ⟨by rfl, ?hyq8⟩) (by assumption) ?restq8
            case hyq8 => (intro w' hSw; (try dsimp only at hSw); go_simp <;> with_reducible rfl)
            try simp only [List.getElem_toArray, List.getElem_cons_succ, List.getElem_cons_zero, Act.put, List.setIfInBounds_toArray, List.set_cons_zero, List.set_cons_succ]
            refine wpAnyH_take (i := 9) (v := ?vq9) rfl (by kernel_rfl) (by kernel_rfl) (by kernel_rfl) (fun _ _ _ h => h) (Or.inl ⟨by rfl, ?hyq9⟩) (by assumption) ?restq9
            case hyq9 => (intro w' hSw; (try dsimp only at hSw); go_simp <;> with_reducible rfl)
            try simp only [List.getElem_toArray, List.getElem_cons_succ, List.getElem_cons_zero, Act.put, List.setIfInBounds_toArray, List.set_cons_zero, List.set_cons_succ]
            refine wpAnyH_take (i := 11) (v := ?vq11) rfl (by kernel_rfl) (by kernel_rfl) (by kernel_rfl) (fun _ _ _ h => h) (Or.inl ⟨by rfl, ?hyq11⟩) (by assumption) ?restq11
            case hyq11 => (intro w' hSw; (try dsimp only at hSw); go_simp <;> with_reducible rfl)
            try simp only [List.getElem_toArray, List.getElem_cons_succ, List.getElem_cons_zero, Act.put, List.setIfInBounds_toArray, List.set_cons_zero, List.set_cons_succ]
            refine wpAnyH_take (i := 12) (v := ?vq12) rfl (by kernel_rfl) (by kernel_rfl) (by kernel_rfl) (fun _ _ _ h => h) (Or.inl ⟨by rfl, ?hyq12⟩) (by assumption) ?restq12
            case hyq12 => (intro w' hSw; (try dsimp only at hSw); go_simp <;> with_reducible rfl)
            try simp only [List.getElem_toArray, List.getElem_cons_succ, List.getElem_cons_zero, Act.put, List.setIfInBounds_toArray, List.set_cons_zero, List.set_cons_succ]
            refine wpAnyH_take (i := 13) (v := ?vq13) rfl (by kernel_rfl) (by kernel_rfl) (by kernel_rfl) (fun _ _ _ h => h) (Or.inl ⟨by rfl, ?hyq13⟩) (by assumption) ?restq13
            case hyq13 => (intro w' hSw; (try dsimp only at hSw); go_simp <;> with_reducible rfl)
            try simp only [List.getElem_toArray, List.getElem_cons_succ, List.getElem_cons_zero, Act.put, List.setIfInBounds_toArray, List.set_cons_zero, List.set_cons_succ]
            refine wpAnyH_take (i := 14) (v := ?vq14) rfl (by kernel_rfl) (by kernel_rfl) (by kernel_rfl) (fun _ _ _ h => h) (Or.inl ⟨by rfl, ?hyq14⟩) (by assumption) ?restq14
            case hyq14 => (intro w' hSw; (try dsimp only at hSw); go_simp <;> with_reducible rfl)
            try simp only [List.getElem_toArray, List.getElem_cons_succ, List.getElem_cons_zero, Act.put, List.setIfInBounds_toArray, List.set_cons_zero, List.set_cons_succ]
            refine wpAnyH_take (i := 15) (v := ?vq15) rfl (by kernel_rfl) (by kernel_rfl) (by kernel_rfl) (fun _ _ _ h => h) (Or.inl ⟨by rfl, ?hyq15⟩) (by assumption) ?restq15
            case hyq15 => (intro w' hSw; (try dsimp only at hSw); go_simp <;> with_reducible rfl)
            try simp only [List.getElem_toArray, List.getElem_cons_succ, List.getElem_cons_zero, Act.put, List.setIfInBounds_toArray, List.set_cons_zero, List.set_cons_succ]
            refine wpAnyH_ready (rs := [10]) (by kernel_rfl) (by simp) ?_
            refine AllReadyH.cons rfl (fun K hK => ?_) AllReadyH.nil
            go_simp
            refine (HLN.out _ (Below.refl _ _).drew).mono ?_
            rintro e w7 ⟨rfl, bw7⟩
            have HB7 := Lib.hid (show Below w6.heap.size w6 w7 from Lvl.undrew bw7)
            clear bw7
            refine hK.out _ _ (HK.out _ HB7.out) (fun hHeld => ?_)
            clear hK K
            try simp only [List.getElem_toArray, List.getElem_cons_succ, List.getElem_cons_zero, Act.put, List.setIfInBounds_toArray, List.set_cons_zero, List.set_cons_succ]
            refine wpAnyH_take (i := 16) (v := ?vq16) rfl (by kernel_rfl) (by kernel_rfl) (by kernel_rfl) (fun _ _ _ h => h) (Or.inl ⟨by rfl, ?hyq16⟩) (by assumption) ?restq16
            case hyq16 => (intro w' hSw; (try dsimp only at hSw); go_simp <;> with_reducible rfl)
            try simp only [List.getElem_toArray, List.getElem_cons_succ, List.getElem_cons_zero, Act.put, List.setIfInBounds_toArray, List.set_cons_zero, List.set_cons_succ]
            refine wpAnyH_take (i := 17) (v := ?vq17) rfl (by kernel_rfl) (by kernel_rfl) (by kernel_rfl) (fun _ _ _ h => h) (Or.inl ⟨by rfl, ?hyq17⟩) (by assumption) ?restq17
            case hyq17 => (intro w' hSw; (try dsimp only at hSw); go_simp <;> with_reducible rfl)
            try simp only [List.getElem_toArray, List.getElem_cons_succ, List.getElem_cons_zero, Act.put, List.setIfInBounds_toArray, List.set_cons_zero, List.set_cons_succ]
            refine wpAnyH_take (i := 18) (v := ?vq18) rfl (by kernel_rfl) (by kernel_rfl) (by kernel_rfl) (fun _ _ _ h => h) (Or.inl ⟨by rfl, ?hyq18⟩) (by assumption) ?restq18
            case hyq18 => (intro w' hSw; (try dsimp only at hSw); go_simp <;> with_reducible rfl)
            try simp only [List.getElem_toArray, List.getElem_cons_succ, List.getElem_cons_zero, Act.put, List.setIfInBounds_toArray, List.set_cons_zero, List.set_cons_succ]
            refine wpAnyH_take (i := 19) (v := ?vq19) rfl (by kernel_rfl) (by kernel_rfl) (by kernel_rfl) (fun _ _ _ h => h) (Or.inl ⟨by rfl, ?hyq19⟩) (by assumption) ?restq19
            case hyq19 => (intro w' hSw; (try dsimp only at hSw); go_simp <;> with_reducible rfl)
            try simp only [List.getElem_toArray, List.getElem_cons_succ, List.getElem_cons_zero, Act.put, List.setIfInBounds_toArray, List.set_cons_zero, List.set_cons_succ]
            refine wpAnyH_take (i := 20) (v := ?vq20) rfl (by kernel_rfl) (by kernel_rfl) (by kernel_rfl) (fun _ _ _ h => h) (Or.inl ⟨by rfl, ?hyq20⟩) (by assumption) ?restq20
            case hyq20 => (intro w' hSw; (try dsimp only at hSw); go_simp <;> with_reducible rfl)
            try simp only [List.getElem_toArray, List.getElem_cons_succ, List.getElem_cons_zero, Act.put, List.setIfInBounds_toArray, List.set_cons_zero, List.set_cons_succ]
            refine wpAnyH_take (i := 21) (v := ?vq21) rfl (by kernel_rfl) (by kernel_rfl) (by kernel_rfl) (fun _ _ _ h => h) (Or.inl ⟨by rfl, ?hyq21⟩) (by assumption) ?restq21
            case hyq21 => (intro w' hSw; (try dsimp only at hSw); go_simp <;> with_reducible rfl)
            try simp only [List.getElem_toArray, List.getElem_cons_succ, List.getElem_cons_zero, Act.put, List.setIfInBounds_toArray, List.set_cons_zero, List.set_cons_succ]
            refine wpAnyH_take (i := 22) (v := ?vq22) rfl (by kernel_rfl) (by kernel_rfl) (by kernel_rfl) (fun _ _ _ h => h) (Or.inl ⟨by rfl, ?hyq22⟩) (by assumption) ?restq22
            case hyq22 => (intro w' hSw; (try dsimp only at hSw); go_simp <;> with_reducible rfl)
            try simp only [List.getElem_toArray, List.getElem_cons_succ, List.getElem_cons_zero, Act.put, List.setIfInBounds_toArray, List.set_cons_zero, List.set_cons_succ]
            refine wpAnyH_take (i := 23) (v := ?vq23) rfl (by kernel_rfl) (by kernel_rfl) (by kernel_rfl) (fun _ _ _ h => h) (Or.inl ⟨by rfl, ?hyq23⟩) (by assumption) ?restq23
            case hyq23 => (intro w' hSw; (try dsimp only at hSw); go_simp <;> with_reducible rfl)
            try simp only [List.getElem_toArray, List.getElem_cons_succ, List.getElem_cons_zero, Act.put, List.setIfInBounds_toArray, List.set_cons_zero, List.set_cons_succ]
            refine wpAnyH_take (i := 24) (v := ?vq24) rfl (by kernel_rfl) (by kernel_rfl) (by kernel_rfl) (fun _ _ _ h => h) (Or.inl ⟨by rfl, ?hyq24⟩) (by assumption) ?restq24
            case hyq24 => (intro w' hSw; (try dsimp only at hSw); go_simp <;> with_reducible rfl)
            try simp only [List.getElem_toArray, List.getElem_cons_succ, List.getElem_cons_zero, Act.put, List.setIfInBounds_toArray, List.set_cons_zero, List.set_cons_succ]
            refine wpAnyH_take (i := 25) (v := ?vq25) rfl (by kernel_rfl) (by kernel_rfl) (by kernel_rfl) (fun _ _ _ h => h) (Or.inl ⟨by rfl, ?hyq25⟩) (by assumption) ?restq25
            case hyq25 => (intro w' hSw; (try dsimp only at hSw); go_simp <;> with_reducible rfl)
            try simp only [List.getElem_toArray, List.getElem_cons_succ, List.getElem_cons_zero, Act.put, List.setIfInBounds_toArray, List.set_cons_zero, List.set_cons_succ]
            refine wpAnyH_take (i := 26) (v := ?vq26) rfl (by kernel_rfl) (by kernel_rfl) (by kernel_rfl) (fun _ _ _ h => h) (Or.inl ⟨by rfl, ?hyq26⟩) (by assumption) ?restq26
            case hyq26 => (intro w' hSw; (try dsimp only at hSw); go_simp <;> with_reducible rfl)
            try simp only [List.getElem_toArray, List.getElem_cons_succ, List.getElem_cons_zero, Act.put, List.setIfInBounds_toArray, List.set_cons_zero, List.set_cons_succ]
            refine wpAnyH_ready (rs := [27]) (by kernel_rfl) (by simp) ?_
            refine AllReadyH.cons rfl (fun K hK => ?_) AllReadyH.nil
            go_simp
            refine (HSM.out _ HB7.out).mono ?_
            rintro e w8 ⟨rfl, bw8⟩
            have HB8 := Lib.hid (show Below w6.heap.size w6 w8 from Trm.go HB7.out bw8)
            clear bw8
            refine hK.out _ _ (HK.out _ HB8.out) (fun hHeld => ?_)
            clear hK K
            try simp only [List.getElem_toArray, List.getElem_cons_succ, List.getElem_cons_zero, Act.put, List.setIfInBounds_toArray, List.set_cons_zero, List.set_cons_succ]
            refine wpAnyH_take (i := 28) (v := ?vq28) rfl (by kernel_rfl) (by kernel_rfl) (by kernel_rfl) (fun _ _ _ h => h) (Or.inl ⟨by rfl, ?hyq28⟩) (by assumption) ?restq28
            case hyq28 => (intro w' hSw; (try dsimp only at hSw); go_simp <;> with_reducible rfl)
            try simp only [List.getElem_toArray, List.getElem_cons_succ, List.getElem_cons_zero, Act.put, List.setIfInBounds_toArray, List.set_cons_zero, List.set_cons_succ]
            refine wpAnyH_take (i := 29) (v := ?vq29) rfl (by kernel_rfl) (by kernel_rfl) (by kernel_rfl) (fun _ _ _ h => h) (Or.inl ⟨by rfl, ?hyq29⟩) (by assumption) ?restq29
            case hyq29 => (intro w' hSw; (try dsimp only at hSw); go_simp <;> with_reducible rfl)
            try simp only [List.getElem_toArray, List.getElem_cons_succ, List.getElem_cons_zero, Act.put, List.setIfInBounds_toArray, List.set_cons_zero, List.set_cons_succ]
            refine wpAnyH_take (i := 30) (v := ?vq30) rfl (by kernel_rfl) (by kernel_rfl) (by kernel_rfl) (fun _ _ _ h => h) (Or.inl ⟨by rfl, ?hyq30⟩) (by assumption) ?restq30
            case hyq30 => (intro w' hSw; (try dsimp only at hSw); go_simp <;> with_reducible rfl)
            try simp only [List.getElem_toArray, List.getElem_cons_succ, List.getElem_cons_zero, Act.put, List.setIfInBounds_toArray, List.set_cons_zero, List.set_cons_succ]
            refine wpAnyH_done (by kernel_rfl) ?_ _
            have HP8 := Lib.hid (HP6.out.below HB8.out)
            have HO8 := Lib.hid (HO6.out.below HB8.out)
            have HX8 := Lib.hid (Lvl.keep HB8.out HX6.out)
            have HSPL := Lib.hid (Spoil_any t w8 wr.heap.size w3.heap.size h3 HNB.out HO8.out.sp HO8.out.le)
            obtain ⟨x0, x1, x2, x3, x4⟩ := Tm.cells HX8.out
            unfold Tm.val Tm.vals at HSPL
            clear HK HLN HSM
            go_wp2_with fail
            refine HSPL.out.mono ?_
            rintro e w9 ⟨rfl, r9⟩
            have HP9 := Lib.hid ((HP8.out.part (Nat.le_refl _) (show w3.heap.size ≤ W4.heap.size by have := HZ4.out; omega)).spoil r9).1
            clear x0 x1 x2 x3 x4 r9 HSPL
            have HPE := HP9
            have HNX : Hid (LRel1 w A bb l (.int .i64 ((k + 1 : Nat) : Int)) w9) := Lib.hid (by have h := HPE.out.flat; rw [HM.out] at h; exact ⟨k + 1, _, _, _, _, rfl, HLT.out, h⟩)
            have hwk : IntKind.i64.wrap ((k : Int) + 1) = ((k + 1 : Nat) : Int) := by rw [IntWalk.i64_in _ (by have := HLT.out; omega)]; omega
            go_wp2_with fail
            go_roundw
            case rel => exact HNX.out
            case measure => simp [intOf]; have := HLT.out; omega
          · obtain ⟨rfl, m5⟩ := hy hm
            have hst : stepL (puts (l.take k)) t = Tm.ins t (puts (l.take k)) := by unfold stepL; rw [if_pos hm]
            obtain ⟨M, hM⟩ : ∃ M, M = puts (l.take (k + 1)) := ⟨_, rfl⟩
            have hMe : Tm.ins t (puts (l.take k)) = M := by rw [hM, HPT.out, hst]
            rw [hMe] at m5 ⊢
            obtain ⟨va5, mo5, hp5, hb5, r5⟩ := HP4.out.putA m5
            have HP5 := Lib.hid hp5
            have HO5 := Lib.hid (HP4.out.otA r5 HO4.out (Nat.le_refl _) (by have := HZ4.out; omega))
            have HX5 := Lib.hid (HP4.out.keepA r5 ⟨HB3.out.size, by have := HZ4.out; omega⟩ HX4.out)
            have HB5 := Lib.hid (show Below w.heap.size wr w5 from ((Trm.go HB3.out B34.out).mono HP.out.bel.size).trans hb5)
            have HRP := Lib.hid (RPut_any HP5.out.rb t hd (Tm.In.below HB5.out _ _ HI.out) (by have := HPL.out; have := HNB.out.size; omega) HP.out.ar.ok)
            obtain ⟨k0, k1, k2, k3, k4⟩ := HCL.out.below HB5.out HB.out
            have HMM := Lib.hid hMe
            have HM := Lib.hid hM
            have HMAY := Lib.hid hm
            unfold Tm.val Tm.vals at HRP
            clear hy hn m5 hst hM hMe hp5 hb5 r5 hm
            go_wp2_with fail
            refine HRP.out.mono ?_
            rintro e w6 ⟨hy6, hn6⟩
            obtain ⟨rfl, m6⟩ := hy6 HMAY.out
            rw [HMM.out] at m6 ⊢
            obtain ⟨v6, ps6, hp6, hb6, r6⟩ := HP5.out.putB m6
            have HP6 := Lib.hid hp6
            have HO6 := Lib.hid (HP5.out.otB r6 HO5.out (Nat.le_refl _) (by have := HZ4.out; omega))
            have HX6 := Lib.hid (HP5.out.keepB r6 ⟨HB3.out.size, by have := HZ4.out; omega⟩ HX5.out)
            have HB6 := Lib.hid (show Below w.heap.size wr w6 from HB5.out.trans hb6)
            have HI6 := Lib.hid (Tm.In.below HB6.out _ _ HI.out)
            obtain ⟨ao6, cp6, hv6⟩ := HP6.out.slice
            subst hv6
            have HW6 := Lib.hid hp6.bel.size
            have HLN := Lib.hid (fun (W : World) (hW : Below w6.heap.size w6 W) => Len_any (HP6.out.ar.below hW (Nat.le_refl _)))
            have HK := Lib.hid (fun (W : World) (hW : Below w6.heap.size w6 W) => (show W.cell? ⟨bb, 0, none⟩ = some (.slice ao6 M.length cp6) ∧ W.cell? ⟨w3.heap.size, 0, none⟩ = some (.int .u8 t.k) ∧ W.cell? ⟨w3.heap.size, 1, none⟩ = some (.int .i64 t.n) ∧ W.cell? ⟨w3.heap.size, 2, none⟩ = some (.string t.s) ∧ W.cell? ⟨w3.heap.size, 3, none⟩ = some (.slice h3.lo t.ls.length h3.lc) ∧ W.cell? ⟨w3.heap.size, 4, none⟩ = some (.slice h3.to t.ts.length h3.tc) ∧ W.cell? ⟨b, off + k * 5, none⟩ = some (.int .u8 t.k) ∧ W.cell? ⟨b, off + k * 5 + 1, none⟩ = some (.int .i64 t.n) ∧ W.cell? ⟨b, off + k * 5 + 2, none⟩ = some (.string t.s) ∧ W.cell? ⟨b, off + k * 5 + 3, none⟩ = some (.slice hd.lo t.ls.length hd.lc) ∧ W.cell? ⟨b, off + k * 5 + 4, none⟩ = some (.slice hd.to t.ts.length hd.tc) from by
              obtain ⟨x0, x1, x2, x3, x4⟩ := Tm.cells (Lvl.keep hW HX6.out)
              obtain ⟨y0, y1, y2, y3, y4⟩ := HCL.out.below (HB6.out.trans (hW.mono HW6.out)) HB.out
              exact ⟨one_cell (Lvl.keep hW HP6.out.rb.box), x0, x1, x2, x3, x4, y0, y1, y2, y3, y4⟩))
            clear hy6 hn6 m6 hp6 hb6 r6 HRP k0 k1 k2 k3 k4
            go_upto_region 13 with fail
            refine wp_region_held_drew (S := fun w' => w'.cell? ⟨bb, 0, none⟩ = some (.slice ao6 M.length cp6) ∧ w'.cell? ⟨w3.heap.size, 0, none⟩ = some (.int .u8 t.k) ∧ w'.cell? ⟨w3.heap.size, 1, none⟩ = some (.int .i64 t.n) ∧ w'.cell? ⟨w3.heap.size, 2, none⟩ = some (.string t.s) ∧ w'.cell? ⟨w3.heap.size, 3, none⟩ = some (.slice h3.lo t.ls.length h3.lc) ∧ w'.cell? ⟨w3.heap.size, 4, none⟩ = some (.slice h3.to t.ts.length h3.tc) ∧ w'.cell? ⟨b, off + k * 5, none⟩ = some (.int .u8 t.k) ∧ w'.cell? ⟨b, off + k * 5 + 1, none⟩ = some (.int .i64 t.n) ∧ w'.cell? ⟨b, off + k * 5 + 2, none⟩ = some (.string t.s) ∧ w'.cell? ⟨b, off + k * 5 + 3, none⟩ = some (.slice hd.lo t.ls.length hd.lc) ∧ w'.cell? ⟨b, off + k * 5 + 4, none⟩ = some (.slice hd.to t.ts.length hd.tc)) (by kernel_rfl) (HK.out _ (Below.refl _ _).drew) (fun hHeld => ?_)
            refine wpAnyH_take (i := 0) (v := ?vp0) rfl (by kernel_rfl) (by kernel_rfl) (by kernel_rfl) (fun _ _ _ h => h) (Or.inl ⟨by rfl, ?hyp0⟩) (by assumption) ?restp0
            case hyp0 => (intro w' hSw; (try dsimp only at hSw); go_simp <;> with_reducible rfl)
            try simp only [List.getElem_toArray, List.getElem_cons_zero, Act.put, List.setIfInBounds_toArray, List.set_cons_zero, List.set_cons_succ]
            refine wpAnyH_take (i := 1) (v := ?vp1) rfl (by kernel_rfl) (by kernel_rfl) (by kernel_rfl) (fun _ _ _ h => h) (Or.inl ⟨by rfl, ?hyp1⟩) (by assumption) ?restp1
            case hyp1 => (intro w' hSw; (try dsimp only at hSw); go_simp <;> with_reducible rfl)
            try simp only [List.getElem_toArray, List.getElem_cons_succ, List.getElem_cons_zero, Act.put, List.setIfInBounds_toArray, List.set_cons_zero, List.set_cons_succ]
            refine wpAnyH_take (i := 2) (v := ?vp2) rfl (by kernel_rfl) (by kernel_rfl) (by kernel_rfl) (fun _ _ _ h => h) (Or.inl ⟨by rfl, ?hyp2⟩) (by assumption) ?restp2
            case hyp2 => (intro w' hSw; (try dsimp only at hSw); go_simp <;> with_reducible rfl)
            try simp only [List.getElem_toArray, List.getElem_cons_succ, List.getElem_cons_zero, Act.put, List.setIfInBounds_toArray, List.set_cons_zero, List.set_cons_succ]
            refine wpAnyH_take (i := 3) (v := ?vp3) rfl (by kernel_rfl) (by kernel_rfl) (by kernel_rfl) (fun _ _ _ h => h) (Or.inl ⟨by rfl, ?hyp3⟩) (by assumption) ?restp3
            case hyp3 => (intro w' hSw; (try dsimp only at hSw); go_simp <;> with_reducible rfl)
            try simp only [List.getElem_toArray, List.getElem_cons_succ, List.getElem_cons_zero, Act.put, List.setIfInBounds_toArray, List.set_cons_zero, List.set_cons_succ]
            refine wpAnyH_take (i := 4) (v := ?vp4) rfl (by kernel_rfl) (by kernel_rfl) (by kernel_rfl) (fun _ _ _ h => h) (Or.inl ⟨by rfl, ?hyp4⟩) (by assumption) ?restp4
            case hyp4 => (intro w' hSw; (try dsimp only at hSw); go_simp <;> with_reducible rfl)
            try simp only [List.getElem_toArray, List.getElem_cons_succ, List.getElem_cons_zero, Act.put, List.setIfInBounds_toArray, List.set_cons_zero, List.set_cons_succ]
            refine wpAnyH_take (i := 5) (v := ?vp5) rfl (by kernel_rfl) (by kernel_rfl) (by kernel_rfl) (fun _ _ _ h => h) (Or.inl ⟨by rfl, ?hyp5⟩) (by assumption) ?restp5
            case hyp5 => (intro w' hSw; (try dsimp only at hSw); go_simp <;> with_reducible rfl)
            try simp only [List.getElem_toArray, List.getElem_cons_succ, List.getElem_cons_zero, Act.put, List.setIfInBounds_toArray, List.set_cons_zero, List.set_cons_succ]
            refine wpAnyH_take (i := 6) (v := ?vp6) rfl (by kernel_rfl) (by kernel_rfl) (by kernel_rfl) (fun _ _ _ h => h) (Or.inl ⟨by rfl, ?hyp6⟩) (by assumption) ?restp6
            case hyp6 => (intro w' hSw; (try dsimp only at hSw); go_simp <;> with_reducible rfl)
            try simp only [List.getElem_toArray, List.getElem_cons_succ, List.getElem_cons_zero, Act.put, List.setIfInBounds_toArray, List.set_cons_zero, List.set_cons_succ]
            refine wpAnyH_take (i := 7) (v := ?vp7) rfl (by kernel_rfl) (by kernel_rfl) (by kernel_rfl) (fun _ _ _ h => h) (Or.inl ⟨by rfl, ?hyp7⟩) (by assumption) ?restp7
            case hyp7 => (intro w' hSw; (try dsimp only at hSw); go_simp <;> with_reducible rfl)
            try simp only [List.getElem_toArray, List.getElem_cons_succ, List.getElem_cons_zero, Act.put, List.setIfInBounds_toArray, List.set_cons_zero, List.set_cons_succ]
            refine wpAnyH_take (i := 8) (v := ?vp8) rfl (by kernel_rfl) (by kernel_rfl) (by kernel_rfl) (fun _ _ _ h => h) (Or.inl ⟨by rfl, ?hyp8⟩) (by assumption) ?restp8
            case hyp8 => (intro w' hSw; (try dsimp only at hSw); go_simp <;> with_reducible rfl)
            try simp only [List.getElem_toArray, List.getElem_cons_succ, List.getElem_cons_zero, Act.put, List.setIfInBounds_toArray, List.set_cons_zero, List.set_cons_succ]
            refine wpAnyH_take (i := 9) (v := ?vp9) rfl (by kernel_rfl) (by kernel_rfl) (by kernel_rfl) (fun _ _ _ h => h) (Or.inl ⟨by rfl, ?hyp9⟩) (by assumption) ?restp9
            case hyp9 => (intro w' hSw; (try dsimp only at hSw); go_simp <;> with_reducible rfl)
            try simp only [List.getElem_toArray, List.getElem_cons_succ, List.getElem_cons_zero, Act.put, List.setIfInBounds_toArray, List.set_cons_zero, List.set_cons_succ]
            refine wpAnyH_take (i := 11) (v := ?vp11) rfl (by kernel_rfl) (by kernel_rfl) (by kernel_rfl) (fun _ _ _ h => h) (Or.inl ⟨by rfl, ?hyp11⟩) (by assumption) ?restp11
            case hyp11 => (intro w' hSw; (try dsimp only at hSw); go_simp <;> with_reducible rfl)
            try simp only [List.getElem_toArray, List.getElem_cons_succ, List.getElem_cons_zero, Act.put, List.setIfInBounds_toArray, List.set_cons_zero, List.set_cons_succ]
            refine wpAnyH_take (i := 12) (v := ?vp12) rfl (by kernel_rfl) (by kernel_rfl) (by kernel_rfl) (fun _ _ _ h => h) (Or.inl ⟨by rfl, ?hyp12⟩) (by assumption) ?restp12
            case hyp12 => (intro w' hSw; (try dsimp only at hSw); go_simp <;> with_reducible rfl)
            try simp only [List.getElem_toArray, List.getElem_cons_succ, List.getElem_cons_zero, Act.put, List.setIfInBounds_toArray, List.set_cons_zero, List.set_cons_succ]
            refine wpAnyH_take (i := 13) (v := ?vp13) rfl (by kernel_rfl) (by kernel_rfl) (by kernel_rfl) (fun _ _ _ h => h) (Or.inl ⟨by rfl, ?hyp13⟩) (by assumption) ?restp13
            case hyp13 => (intro w' hSw; (try dsimp only at hSw); go_simp <;> with_reducible rfl)
            try simp only [List.getElem_toArray, List.getElem_cons_succ, List.getElem_cons_zero, Act.put, List.setIfInBounds_toArray, List.set_cons_zero, List.set_cons_succ]
            refine wpAnyH_take (i := 14) (v := ?vp14) rfl (by kernel_rfl) (by kernel_rfl) (by kernel_rfl) (fun _ _ _ h => h) (Or.inl ⟨by rfl, ?hyp14⟩) (by assumption) ?restp14
            case hyp14 => (intro w' hSw; (try dsimp only at hSw); go_simp <;> with_reducible rfl)
            try simp only [List.getElem_toArray, List.getElem_cons_succ, List.getElem_cons_zero, Act.put, List.setIfInBounds_toArray, List.set_cons_zero, List.set_cons_succ]
            refine wpAnyH_take (i := 15) (v := ?vp15) rfl (by kernel_rfl) (by kernel_rfl) (by kernel_rfl) (fun _ _ _ h => h) (Or.inl ⟨by rfl, ?hyp15⟩) (by assumption) ?restp15
            case hyp15 => (intro w' hSw; (try dsimp only at hSw); go_simp <;> with_reducible rfl)
            try simp only [List.getElem_toArray, List.getElem_cons_succ, List.getElem_cons_zero, Act.put, List.setIfInBounds_toArray, List.set_cons_zero, List.set_cons_succ]
            refine wpAnyH_ready (rs := [10]) (by kernel_rfl) (by simp) ?_
            refine AllReadyH.cons rfl (fun K hK => ?_) AllReadyH.nil
            go_simp
            refine (HLN.out _ (Below.refl _ _).drew).mono ?_
            rintro e w7 ⟨rfl, bw7⟩
            have HB7 := Lib.hid (show Below w6.heap.size w6 w7 from Lvl.undrew bw7)
            clear bw7
            refine hK.out _ _ (HK.out _ HB7.out) (fun hHeld => ?_)
            clear hK K
            try simp only [List.getElem_toArray, List.getElem_cons_succ, List.getElem_cons_zero, Act.put, List.setIfInBounds_toArray, List.set_cons_zero, List.set_cons_succ]
            refine wpAnyH_take (i := 16) (v := ?vp16) rfl (by kernel_rfl) (by kernel_rfl) (by kernel_rfl) (fun _ _ _ h => h) (Or.inl ⟨by rfl, ?hyp16⟩) (by assumption) ?restp16
            case hyp16 => (intro w' hSw; (try dsimp only at hSw); go_simp <;> with_reducible rfl)
            try simp only [List.getElem_toArray, List.getElem_cons_succ, List.getElem_cons_zero, Act.put, List.setIfInBounds_toArray, List.set_cons_zero, List.set_cons_succ]
            refine wpAnyH_take (i := 17) (v := ?vp17) rfl (by kernel_rfl) (by kernel_rfl) (by kernel_rfl) (fun _ _ _ h => h) (Or.inl ⟨by rfl, ?hyp17⟩) (by assumption) ?restp17
            case hyp17 => (intro w' hSw; (try dsimp only at hSw); go_simp <;> with_reducible rfl)
            try simp only [List.getElem_toArray, List.getElem_cons_succ, List.getElem_cons_zero, Act.put, List.setIfInBounds_toArray, List.set_cons_zero, List.set_cons_succ]
            refine wpAnyH_take (i := 18) (v := ?vp18) rfl (by kernel_rfl) (by kernel_rfl) (by kernel_rfl) (fun _ _ _ h => h) (Or.inl ⟨by rfl, ?hyp18⟩) (by assumption) ?restp18
            case hyp18 => (intro w' hSw; (try dsimp only at hSw); go_simp <;> with_reducible rfl)
            try simp only [List.getElem_toArray, List.getElem_cons_succ, List.getElem_cons_zero, Act.put, List.setIfInBounds_toArray, List.set_cons_zero, List.set_cons_succ]
            refine wpAnyH_take (i := 19) (v := ?vp19) rfl (by kernel_rfl) (by kernel_rfl) (by kernel_rfl) (fun _ _ _ h => h) (Or.inl ⟨by rfl, ?hyp19⟩) (by assumption) ?restp19
            case hyp19 => (intro w' hSw; (try dsimp only at hSw); go_simp <;> with_reducible rfl)
            try simp only [List.getElem_toArray, List.getElem_cons_succ, List.getElem_cons_zero, Act.put, List.setIfInBounds_toArray, List.set_cons_zero, List.set_cons_succ]
            refine wpAnyH_take (i := 20) (v := ?vp20) rfl (by kernel_rfl) (by kernel_rfl) (by kernel_rfl) (fun _ _ _ h => h) (Or.inl ⟨by rfl, ?hyp20⟩) (by assumption) ?restp20
            case hyp20 => (intro w' hSw; (try dsimp only at hSw); go_simp <;> with_reducible rfl)
            try simp only [List.getElem_toArray, List.getElem_cons_succ, List.getElem_cons_zero, Act.put, List.setIfInBounds_toArray, List.set_cons_zero, List.set_cons_succ]
            refine wpAnyH_take (i := 21) (v := ?vp21) rfl (by kernel_rfl) (by kernel_rfl) (by kernel_rfl) (fun _ _ _ h => h) (Or.inl ⟨by rfl, ?hyp21⟩) (by assumption) ?restp21
            case hyp21 => (intro w' hSw; (try dsimp only at hSw); go_simp <;> with_reducible rfl)
            try simp only [List.getElem_toArray, List.getElem_cons_succ, List.getElem_cons_zero, Act.put, List.setIfInBounds_toArray, List.set_cons_zero, List.set_cons_succ]
            refine wpAnyH_take (i := 22) (v := undef) rfl (by kernel_rfl) (by kernel_rfl) (by kernel_rfl) (fun _ _ _ h => h) (Or.inr ⟨by rfl, rfl⟩) (by assumption) ?_
            try simp only [List.getElem_toArray, List.getElem_cons_succ, List.getElem_cons_zero, Act.put, List.setIfInBounds_toArray, List.set_cons_zero, List.set_cons_succ]
            refine wpAnyH_take (i := 23) (v := undef) rfl (by kernel_rfl) (by kernel_rfl) (by kernel_rfl) (fun _ _ _ h => h) (Or.inr ⟨by rfl, rfl⟩) (by assumption) ?_
            try simp only [List.getElem_toArray, List.getElem_cons_succ, List.getElem_cons_zero, Act.put, List.setIfInBounds_toArray, List.set_cons_zero, List.set_cons_succ]
            refine wpAnyH_take (i := 24) (v := undef) rfl (by kernel_rfl) (by kernel_rfl) (by kernel_rfl) (fun _ _ _ h => h) (Or.inr ⟨by rfl, rfl⟩) (by assumption) ?_
            try simp only [List.getElem_toArray, List.getElem_cons_succ, List.getElem_cons_zero, Act.put, List.setIfInBounds_toArray, List.set_cons_zero, List.set_cons_succ]
            refine wpAnyH_take (i := 25) (v := undef) rfl (by kernel_rfl) (by kernel_rfl) (by kernel_rfl) (fun _ _ _ h => h) (Or.inr ⟨by rfl, rfl⟩) (by assumption) ?_
            try simp only [List.getElem_toArray, List.getElem_cons_succ, List.getElem_cons_zero, Act.put, List.setIfInBounds_toArray, List.set_cons_zero, List.set_cons_succ]
            refine wpAnyH_take (i := 26) (v := undef) rfl (by kernel_rfl) (by kernel_rfl) (by kernel_rfl) (fun _ _ _ h => h) (Or.inr ⟨by rfl, rfl⟩) (by assumption) ?_
            try simp only [List.getElem_toArray, List.getElem_cons_succ, List.getElem_cons_zero, Act.put, List.setIfInBounds_toArray, List.set_cons_zero, List.set_cons_succ]
            refine wpAnyH_take (i := 27) (v := undef) rfl (by kernel_rfl) (by kernel_rfl) (by kernel_rfl) (fun _ _ _ h => h) (Or.inr ⟨by rfl, rfl⟩) (by assumption) ?_
            try simp only [List.getElem_toArray, List.getElem_cons_succ, List.getElem_cons_zero, Act.put, List.setIfInBounds_toArray, List.set_cons_zero, List.set_cons_succ]
            refine wpAnyH_take (i := 28) (v := undef) rfl (by kernel_rfl) (by kernel_rfl) (by kernel_rfl) (fun _ _ _ h => h) (Or.inr ⟨by rfl, rfl⟩) (by assumption) ?_
            try simp only [List.getElem_toArray, List.getElem_cons_succ, List.getElem_cons_zero, Act.put, List.setIfInBounds_toArray, List.set_cons_zero, List.set_cons_succ]
            have HB8 := HB7
            obtain ⟨w8, hw8⟩ : ∃ x : World, x = w7 := ⟨_, rfl⟩
            subst hw8
            refine wpAnyH_take (i := 29) (v := ?vp29) rfl (by kernel_rfl) (by kernel_rfl) (by kernel_rfl) (fun _ _ _ h => h) (Or.inl ⟨by rfl, ?hyp29⟩) (by assumption) ?restp29
            case hyp29 => (intro w' hSw; (try dsimp only at hSw); go_simp <;> with_reducible rfl)
            try simp only [List.getElem_toArray, List.getElem_cons_succ, List.getElem_cons_zero, Act.put, List.setIfInBounds_toArray, List.set_cons_zero, List.set_cons_succ]
            refine wpAnyH_take (i := 30) (v := ?vp30) rfl (by kernel_rfl) (by kernel_rfl) (by kernel_rfl) (fun _ _ _ h => h) (Or.inl ⟨by rfl, ?hyp30⟩) (by assumption) ?restp30
            case hyp30 => (intro w' hSw; (try dsimp only at hSw); go_simp <;> with_reducible rfl)
            try simp only [List.getElem_toArray, List.getElem_cons_succ, List.getElem_cons_zero, Act.put, List.setIfInBounds_toArray, List.set_cons_zero, List.set_cons_succ]
            refine wpAnyH_done (by kernel_rfl) ?_ _
            have HP8 := Lib.hid (HP6.out.below HB8.out)
            have HO8 := Lib.hid (HO6.out.below HB8.out)
            have HX8 := Lib.hid (Lvl.keep HB8.out HX6.out)
            have HSPL := Lib.hid (Spoil_any t w8 wr.heap.size w3.heap.size h3 HNB.out HO8.out.sp HO8.out.le)
            obtain ⟨x0, x1, x2, x3, x4⟩ := Tm.cells HX8.out
            unfold Tm.val Tm.vals at HSPL
            clear HK HLN
            go_wp2_with fail
            refine HSPL.out.mono ?_
            rintro e w9 ⟨rfl, r9⟩
            have HP9 := Lib.hid ((HP8.out.part (Nat.le_refl _) (show w3.heap.size ≤ W4.heap.size by have := HZ4.out; omega)).spoil r9).1
            clear x0 x1 x2 x3 x4 r9 HSPL
            have HMEM := Lib.hid (show t ∈ M from by rw [HM.out, HPT.out, stepL, if_pos HMAY.out]; exact ins_mem t (puts (l.take k)))
            have HGET := Lib.hid (AGet_some HP9.out.ar HMEM.out)
            go_wp2_with fail
            refine HGET.out.mono ?_
            rintro e w10 ⟨h10, rfl, f10, b10⟩
            obtain ⟨W11, hW11⟩ : ∃ W11, W11 = w10.alloc (t.box h10) := ⟨_, rfl⟩
            have B1011 := Lib.hid (show Below w10.heap.size w10 W11 from hW11 ▸ below_one _ _)
            have hz11 : W11.heap.size = w10.heap.size + 1 := by rw [hW11]; simp
            have HZ11 := Lib.hid hz11
            have HX11 := Lib.hid (show W11.heap[w10.heap.size]? = some (t.box h10) from hW11 ▸ World.alloc_heap_new w10 _)
            have HP11 := Lib.hid (HP9.out.window (Trm.go b10 B1011.out))
            have HO11 := Lib.hid ((OT.of f10).below B1011.out)
            have HSP2 := Lib.hid (Spoil_any t W11 w9.heap.size w10.heap.size h10 HNB.out HO11.out.sp HO11.out.le)
            unfold Tm.box Tm.vals at hW11
            unfold Tm.val Tm.vals at HSP2 ⊢
            clear f10 b10 hz11 HGET
            go_upto_region 18 with fail
            rw [← hW11]
            clear hW11
            obtain ⟨x0, x1, x2, x3, x4⟩ := Tm.cells HX11.out
            go_wp2_with fail
            refine HSP2.out.mono ?_
            rintro e w12 ⟨rfl, r12⟩
            have HPE := Lib.hid ((HP11.out.part (Nat.le_refl _) (show w10.heap.size ≤ W11.heap.size by have := HZ11.out; omega)).spoil r12).1
            clear r12 x0 x1 x2 x3 x4
            have HNX : Hid (LRel1 w A bb l (.int .i64 ((k + 1 : Nat) : Int)) w12) := Lib.hid (by have h := HPE.out.flat; rw [HM.out] at h; exact ⟨k + 1, _, _, _, _, rfl, HLT.out, h⟩)
            have hwk : IntKind.i64.wrap ((k : Int) + 1) = ((k + 1 : Nat) : Int) := by rw [IntWalk.i64_in _ (by have := HLT.out; omega)]; omega
            go_wp2_with fail
            go_roundw
            case rel => exact HNX.out
            case measure => simp [intOf]; have := HLT.out; omega
        · have hkl : k = l.length := by omega
          subst hkl
          rw [List.take_length] at HP
          have hplen := puts_len l l.length
          rw [List.take_length] at hplen
          have HLL : Hid (((puts l).length : Int) ≤ 300) := Lib.hid (by have := HSZ.out; omega)
          obtain ⟨L, hL⟩ : ∃ L, L = puts l := ⟨_, rfl⟩
          rw [← hL] at HP HLL
          clear hL hplen HDP HSZ hlt hk
          obtain ⟨N, hN⟩ : ∃ N : Int, N = ((if o ∈ L then num L o else 0 : Nat) : Int) := ⟨_, rfl⟩
          obtain ⟨Z, hZ⟩ : ∃ Z : Bool, Z = decide (o ∈ L) := ⟨_, rfl⟩
          have hfd := Find_any HP.out.ar o oh (FirmS.of (Tm.In.below HP.out.bel _ _ HOI.out) (fun q hq => HP.out.high q hq) HP.out.bel.size) (by have := HLL.out; omega)
          rw [← hN, ← hZ] at hfd
          have HFD := Lib.hid hfd
          have HRF := Lib.hid (fun (W : World) (va5 : Value) (mo5 : Option Nat) (hp : PS w W A bb L L va5 mo5 v ps w.heap.size w.heap.size) => (show Calls Try.prog 15 #[.pointer (some ⟨bb, 0, none⟩), .agg #[.int .u8 o.k, .int .i64 o.n, .string o.s, .slice oh.lo o.ls.length oh.lc, .slice oh.to o.ts.length oh.tc]] W fun e w' => e = .returned (.tuple #[.int .i64 N, .bool Z]) ∧ Below W.heap.size W w' from by
            have h := RFind_any hp.rb o oh (Tm.In.below hp.bel _ _ HOI.out) (by have := HLL.out; omega) hp.ar.ok
            rw [← hN, ← hZ] at h
            exact h))
          obtain ⟨x0, x1, x2, x3, x4⟩ := Tm.cells (Lvl.keep HP.out.bel HOX.out)
          unfold Tm.val Tm.vals at HFD
          clear hfd hN hZ
          go_wp2_with fail
          refine HFD.out.mono ?_
          rintro e w5 ⟨rfl, m5⟩
          obtain ⟨va5, mo5, hp5, hb5, r5⟩ := HP.out.putA m5
          have HP5 := Lib.hid hp5
          clear x0 x1 x2 x3 x4 HFD m5 hb5 r5
          obtain ⟨x0, x1, x2, x3, x4⟩ := Tm.cells (Lvl.keep hp5.bel HOX.out)
          clear hp5
          go_wp2_with fail
          refine (HRF.out _ _ _ HP5.out).mono ?_
          rintro e w6 ⟨rfl, b6⟩
          have HP6 := Lib.hid (HP5.out.below b6)
          obtain ⟨aoL, cpL, hv⟩ := HP6.out.slice
          subst hv
          have HLN6 : Hid (L.length ≤ 300) := Lib.hid (by have := HLL.out; omega)
          clear b6 x0 x1 x2 x3 x4 HRF HP HP5 HLL
          go_wp2_with fail
          go_loopw [21] (fun i wr => LRel2 w6 (L.length + ask.length) i wr) (fun i _ => (L.length + ask.length) - (intOf i).toNat)
          case atStart => exact ⟨0, rfl, by omega, Below.refl _ _⟩
          case round =>
            obtain ⟨k, rfl, hk, hbr⟩ := hrel
            have HBR := Lib.hid hbr
            have HPR := Lib.hid (HP6.out.below hbr)
            have d0 := one_cell HPR.out.rb.box
            have hl300 := HLN6.out
            have ha30 := HA30.out
            have hws : IntKind.i64.wrap ((L.length : Int) + (ask.length : Int)) = ((L.length + ask.length : Nat) : Int) := by rw [IntWalk.i64_in _ (by omega)]; omega
            have hwk : IntKind.i64.wrap ((k : Int) + 1) = ((k + 1 : Nat) : Int) := by rw [IntWalk.i64_in _ (by omega)]; omega
            have HWKK := Lib.hid hwk
            have HWS := Lib.hid hws
            clear hbr hl300 ha30 hwk
            obtain ⟨wL, hwL⟩ : ∃ x : World, x = wr := ⟨_, rfl⟩
            subst hwL
            by_cases hlt : k < L.length + ask.length
            · have HLT := Lib.hid hlt
              by_cases h1 : k < L.length
              · obtain ⟨q, rfl⟩ : ∃ q : Nat, q = k := ⟨_, rfl⟩
                have hq : q < L.length := h1
                have hge : decide ((L.length : Int) ≤ (q : Int)) = false := decide_eq_false (by omega)
                have hlti : decide ((q : Int) < ((L.length + ask.length : Nat) : Int)) = true := decide_eq_true (by omega)
                obtain ⟨x, hx⟩ : ∃ x, x = L[q] := ⟨_, rfl⟩
                have HMEM := Lib.hid (show x ∈ L from hx ▸ List.getElem_mem hq)
                have hnum : num L x = q := by rw [hx]; exact num_at HPR.out.ar.ok hq
                have HGET := Lib.hid (hnum ▸ AGet_some HPR.out.ar HMEM.out)
                have HX := Lib.hid hx
                have HQ := Lib.hid hq
                clear hx hnum
                go_wp2_with fail
                refine HGET.out.mono ?_
                rintro e w8 ⟨h8, rfl, f8, b8⟩
                obtain ⟨W9, hW9⟩ : ∃ W9, W9 = w8.alloc (x.box h8) := ⟨_, rfl⟩
                have B89 := Lib.hid (show Below w8.heap.size w8 W9 from hW9 ▸ below_one _ _)
                have B9 := Lib.hid (Trm.go b8 B89.out)
                have HX9 := Lib.hid (show W9.heap[w8.heap.size]? = some (x.box h8) from hW9 ▸ World.alloc_heap_new w8 _)
                have HIX := Lib.hid (carry f8.1.here B89.out)
                have HP9 := Lib.hid (HPR.out.below B9.out)
                have hka := AKids_some HP9.out.ar HQ.out
                rw [← HX.out] at hka
                have HKA := Lib.hid hka
                clear hka
                have HKB := Lib.hid (fun (W : World) (hW : Below W9.heap.size W9 W) => (show Calls Try.prog 17 #[.pointer (some ⟨bb, 0, none⟩), .int .i64 (q : Nat)] W (KidsPost L x W) from HX.out ▸ RKids_some (HP9.out.below hW).rb HQ.out (by have := HLN6.out; omega) HP9.out.ar.ok))
                unfold Tm.box Tm.vals at hW9
                unfold Tm.val Tm.vals
                clear f8 b8 HGET d0
                go_upto_region 30 with fail
                rw [← hW9]
                clear hW9
                go_wp2_with fail
                refine HKA.out.mono ?_
                rintro e w10 ⟨aoA, cpA, rfl, irA, _, b10⟩
                have HIA0 := Lib.hid irA
                have HB10 := Lib.hid b10
                clear irA b10 HKA
                go_wp2_with fail
                refine (HKB.out _ HB10.out).mono ?_
                rintro e w11 ⟨aoB, cpB, rfl, irB, _, b11⟩
                have HIA := Lib.hid (HIA0.out.below b11)
                have HIB := Lib.hid irB
                have HB11 := Lib.hid (Trm.go HB10.out b11)
                clear irB b11 HKB HIA0
                have HT3 := Lib.hid (show x.ts.length ≤ 3 from (node_few (may_node (HP9.out.ar.ok.may x HMEM.out))).2.1)
                go_wp2_with fail
                go_loopw [29] (fun i w2 => ∃ j : Nat, i = .int .i64 j ∧ j ≤ x.ts.length ∧ Below w11.heap.size w11 w2) (fun i _ => x.ts.length - (intOf i).toNat)
                case atStart => exact ⟨0, rfl, by omega, Below.refl _ _⟩
                case round =>
                  obtain ⟨wC, hwC⟩ : ∃ x : World, x = wr := ⟨_, rfl⟩
                  subst hwC
                  obtain ⟨j, rfl, hj, hbC⟩ := hrel
                  have HBC := Lib.hid hbC
                  clear hbC
                  by_cases hjl : j < x.ts.length
                  · obtain ⟨bA, oA, hA, cA⟩ := (HIA.out.below HBC.out).place j (by unfold nums; rw [List.length_map]; exact hjl)
                    obtain ⟨bB, oB, hB, cB⟩ := (HIB.out.below HBC.out).place j (by unfold nums; rw [List.length_map]; exact hjl)
                    subst hA
                    subst hB
                    generalize (nums L x)[j]'(by unfold nums; rw [List.length_map]; exact hjl) = z at cA cB
                    have hwj : IntKind.i64.wrap ((j : Int) + 1) = (j : Int) + 1 := IntWalk.i64_in _ (by have := HT3.out; omega)
                    clear HIA HIB HWS HWKK
                    go_upto_region 37 with fail
                    go_region
                    go_wp2_with fail
                    go_roundw
                    case rel => exact ⟨j + 1, by go_num, hjl, Trm.go HBC.out (Below.refl _ _).drew⟩
                    case measure => simp [intOf]; omega
                  · have HB11C := Lib.hid (Trm.go HB11.out HBC.out)
                    have hql : q < ps.length := by have := HP9.out.rb.row.len; have := HQ.out; omega
                    have hxe : ps[q].1 = x := by
                      have h2 : (ps.map (·.1))[q]'(by rw [List.length_map]; exact hql) = ps[q].1 := List.getElem_map _
                      rw [← h2, HX.out]
                      simp only [HP9.out.rb.row.map]
                    obtain ⟨g, cap, hsl, hcl, hgl⟩ := own_row_cells rfl HP9.out.rb.row.row hql
                    injection hsl with hs1 hs2 hs3
                    subst hs1
                    have hla := HP9.out.rb.row.lie _ (List.getElem_mem hql)
                    rw [hxe] at hla hcl
                    obtain ⟨hh, hhe⟩ : ∃ hh, hh = ps[q].2 := ⟨_, rfl⟩
                    rw [← hhe] at hla hcl
                    have HCG := Lib.hid hcl
                    have HGL := Lib.hid hgl
                    have HLA := Lib.hid hla
                    clear hs2 hs3 hcl hgl hla hhe hxe hql
                    have HMX := Lib.hid (HP9.out.ar.ok.may x HMEM.out)
                    have HSX := Lib.hid (show x.size ≤ 65536 from may_size' HMX.out)
                    have HW9 := Lib.hid HP9.out.bel.size
                    have hsame := RefSame_any x x h8 hh
                    rw [(same_iff.2 rfl : same x x = true)] at hsame
                    have HC1 := Lib.hid (fun (W : World) (hW : Below W9.heap.size W9 W) => (show Calls Try.prog 11 #[.agg #[.int .u8 x.k, .int .i64 x.n, .string x.s, .slice h8.lo x.ls.length h8.lc, .slice h8.to x.ts.length h8.tc], .agg #[.int .u8 x.k, .int .i64 x.n, .string x.s, .slice hh.lo x.ls.length hh.lc, .slice hh.to x.ts.length hh.tc]] W fun e w' => e = .returned (.bool true) ∧ Below W.heap.size W w' from hsame W (carry HIX.out hW) (Tm.In.mono (by have := hW.size; have := HW9.out; omega) _ _ (Tm.In.below (hW.mono HW9.out) _ _ HLA.out))))
                    have HC2 := Lib.hid (fun (W : World) (hW : Below W9.heap.size W9 W) => (show Calls Try.prog 18 #[.pointer (some ⟨A, 0, none⟩), .int .i64 (q : Nat)] W fun e w' => e = .returned (.int .i64 x.size) ∧ Below W.heap.size W w' from HX.out ▸ ASize_some (HP9.out.ar.below hW (Nat.le_refl _)) HQ.out))
                    have HC3 := Lib.hid (fun (W : World) (hW : Below W9.heap.size W9 W) => (show Calls Try.prog 21 #[.agg #[.int .u8 x.k, .int .i64 x.n, .string x.s, .slice h8.lo x.ls.length h8.lc, .slice h8.to x.ts.length h8.tc]] W fun e w' => e = .returned (.int .i64 x.size) ∧ Below W.heap.size W w' from Size_any x h8 W (by have := HSX.out; omega) (carry HIX.out hW)))
                    have HC4 := Lib.hid (fun (W : World) (hW : Below W9.heap.size W9 W) => (show Calls Try.prog 19 #[.pointer (some ⟨A, 0, none⟩), .int .i64 (q : Nat)] W fun e w' => e = .returned (.int .i64 x.ht) ∧ Below W.heap.size W w' from HX.out ▸ ADeep_some (HP9.out.ar.below hW (Nat.le_refl _)) HQ.out))
                    have HC5 := Lib.hid (fun (W : World) (hW : Below W9.heap.size W9 W) => (show Calls Try.prog 22 #[.agg #[.int .u8 x.k, .int .i64 x.n, .string x.s, .slice h8.lo x.ls.length h8.lc, .slice h8.to x.ts.length h8.tc]] W fun e w' => e = .returned (.int .i64 x.ht) ∧ Below W.heap.size W w' from Deep5_any x h8 W (by have := HSX.out; omega) (carry HIX.out hW)))
                    have HC6 := Lib.hid (fun (W : World) (hW : Below W9.heap.size W9 W) => (show Calls Try.prog 20 #[.pointer (some ⟨A, 0, none⟩), .int .i64 (q : Nat)] W fun e w' => e = .returned (.int .i64 x.free) ∧ Below W.heap.size W w' from HX.out ▸ AFree_some (HP9.out.ar.below hW (Nat.le_refl _)) HQ.out))
                    have HC7 := Lib.hid (fun (W : World) (hW : Below W9.heap.size W9 W) => (show Calls Try.prog 23 #[.agg #[.int .u8 x.k, .int .i64 x.n, .string x.s, .slice h8.lo x.ls.length h8.lc, .slice h8.to x.ts.length h8.tc]] W fun e w' => e = .returned (.int .i64 x.free) ∧ Below W.heap.size W w' from RefFree_any x h8 W HMX.out (carry HIX.out hW)))
                    obtain ⟨sz, hsz⟩ : ∃ sz, sz = x.size := ⟨_, rfl⟩
                    obtain ⟨ht, hht⟩ : ∃ ht, ht = x.ht := ⟨_, rfl⟩
                    obtain ⟨fr, hfr⟩ : ∃ fr, fr = x.free := ⟨_, rfl⟩
                    rw [← hsz] at HC2 HC3
                    rw [← hht] at HC4 HC5
                    rw [← hfr] at HC6 HC7
                    clear hsz hht hfr hsame HIA HIB
                    have hq0 : decide ((L.length : Int) ≤ (q : Int)) = false := decide_eq_false (by have := HQ.out; omega)
                    have hqn : (q : Int) < (L.length : Int) := by have := HQ.out; omega
                    have hqm := HQ.out
                    go_upto_region 42 with fail
                    obtain ⟨x0, x1, x2, x3, x4⟩ := Tm.cells (Lvl.keep HB11C.out HX9.out)
                    obtain ⟨k0, k1, k2, k3, k4⟩ := HCG.out.below HB11C.out HGL.out
                    have d0 := one_cell (Lvl.keep HB11C.out HP9.out.rb.box)
                    clear HX
                    go_region_held3 (fun w' => w'.cell? ⟨w8.heap.size, 0, none⟩ = some (.int .u8 x.k) ∧ w'.cell? ⟨w8.heap.size, 1, none⟩ = some (.int .i64 x.n) ∧ w'.cell? ⟨w8.heap.size, 2, none⟩ = some (.string x.s) ∧ w'.cell? ⟨w8.heap.size, 3, none⟩ = some (.slice h8.lo x.ls.length h8.lc) ∧ w'.cell? ⟨w8.heap.size, 4, none⟩ = some (.slice h8.to x.ts.length h8.tc) ∧ w'.cell? ⟨bb, 0, none⟩ = some (.slice (some ⟨g, 0, none⟩) L.length cpL) ∧ w'.cell? ⟨g, q * 5, none⟩ = some (.int .u8 x.k) ∧ w'.cell? ⟨g, q * 5 + 1, none⟩ = some (.int .i64 x.n) ∧ w'.cell? ⟨g, q * 5 + 2, none⟩ = some (.string x.s) ∧ w'.cell? ⟨g, q * 5 + 3, none⟩ = some (.slice hh.lo x.ls.length hh.lc) ∧ w'.cell? ⟨g, q * 5 + 4, none⟩ = some (.slice hh.to x.ts.length hh.tc))
                      (go_keep)
                      (first
                        | (go_at_call 11; (with_reducible refine (HC1.out _ ?_).mono ?_); (first | assumption | exact HB11C.out.drew); rintro e w7 ⟨rfl, bw⟩; have hb70 : Below W9.heap.size W9 w7 := Trm.go (by first | assumption | exact HB11C.out.drew) bw; obtain ⟨x0, x1, x2, x3, x4⟩ := Tm.cells (Lvl.keep hb70 HX9.out); obtain ⟨k0, k1, k2, k3, k4⟩ := HCG.out.below hb70 HGL.out; have d0 := one_cell (Lvl.keep hb70 HP9.out.rb.box))
                        | (go_at_call 18; (with_reducible refine (HC2.out _ ?_).mono ?_); (first | assumption | exact HB11C.out.drew); rintro e w7 ⟨rfl, bw⟩; have hb71 : Below W9.heap.size W9 w7 := Trm.go (by first | assumption | exact HB11C.out.drew) bw; obtain ⟨x0, x1, x2, x3, x4⟩ := Tm.cells (Lvl.keep hb71 HX9.out); obtain ⟨k0, k1, k2, k3, k4⟩ := HCG.out.below hb71 HGL.out; have d0 := one_cell (Lvl.keep hb71 HP9.out.rb.box))
                        | (go_at_call 21; (with_reducible refine (HC3.out _ ?_).mono ?_); (first | assumption | exact HB11C.out.drew); rintro e w7 ⟨rfl, bw⟩; have hb72 : Below W9.heap.size W9 w7 := Trm.go (by first | assumption | exact HB11C.out.drew) bw; obtain ⟨x0, x1, x2, x3, x4⟩ := Tm.cells (Lvl.keep hb72 HX9.out); obtain ⟨k0, k1, k2, k3, k4⟩ := HCG.out.below hb72 HGL.out; have d0 := one_cell (Lvl.keep hb72 HP9.out.rb.box))
                        | (go_at_call 19; (with_reducible refine (HC4.out _ ?_).mono ?_); (first | assumption | exact HB11C.out.drew); rintro e w7 ⟨rfl, bw⟩; have hb73 : Below W9.heap.size W9 w7 := Trm.go (by first | assumption | exact HB11C.out.drew) bw; obtain ⟨x0, x1, x2, x3, x4⟩ := Tm.cells (Lvl.keep hb73 HX9.out); obtain ⟨k0, k1, k2, k3, k4⟩ := HCG.out.below hb73 HGL.out; have d0 := one_cell (Lvl.keep hb73 HP9.out.rb.box))
                        | (go_at_call 22; (with_reducible refine (HC5.out _ ?_).mono ?_); (first | assumption | exact HB11C.out.drew); rintro e w7 ⟨rfl, bw⟩; have hb74 : Below W9.heap.size W9 w7 := Trm.go (by first | assumption | exact HB11C.out.drew) bw; obtain ⟨x0, x1, x2, x3, x4⟩ := Tm.cells (Lvl.keep hb74 HX9.out); obtain ⟨k0, k1, k2, k3, k4⟩ := HCG.out.below hb74 HGL.out; have d0 := one_cell (Lvl.keep hb74 HP9.out.rb.box))
                        | (go_at_call 20; (with_reducible refine (HC6.out _ ?_).mono ?_); (first | assumption | exact HB11C.out.drew); rintro e w7 ⟨rfl, bw⟩; have hb75 : Below W9.heap.size W9 w7 := Trm.go (by first | assumption | exact HB11C.out.drew) bw; obtain ⟨x0, x1, x2, x3, x4⟩ := Tm.cells (Lvl.keep hb75 HX9.out); obtain ⟨k0, k1, k2, k3, k4⟩ := HCG.out.below hb75 HGL.out; have d0 := one_cell (Lvl.keep hb75 HP9.out.rb.box))
                        | (go_at_call 23; (with_reducible refine (HC7.out _ ?_).mono ?_); (first | assumption | exact HB11C.out.drew); rintro e w7 ⟨rfl, bw⟩; have hb76 : Below W9.heap.size W9 w7 := Trm.go (by first | assumption | exact HB11C.out.drew) bw; obtain ⟨x0, x1, x2, x3, x4⟩ := Tm.cells (Lvl.keep hb76 HX9.out); obtain ⟨k0, k1, k2, k3, k4⟩ := HCG.out.below hb76 HGL.out; have d0 := one_cell (Lvl.keep hb76 HP9.out.rb.box)))
                    all_goals
                      have hwk := HWKK.out
                      clear x0 x1 x2 x3 x4 k0 k1 k2 k3 k4 d0
                      go_wp2_with fail
                      go_roundw
                      case rel => exact ⟨q + 1, rfl, by have := HLT.out; omega, Trm.go HBR.out (Trm.go B9.out (by assumption))⟩
                      case measure => simp [intOf]; have := HLT.out; omega
              · obtain ⟨j, hj⟩ : ∃ j : Nat, j = k - L.length := ⟨_, rfl⟩
                have hjl : j < ask.length := by omega
                obtain ⟨ba, oa, hao, hba, hca⟩ := (HASK.out.below HPR.out.bel) j hjl
                subst hao
                have hge : decide ((L.length : Int) ≤ (k : Int)) = true := decide_eq_true (by omega)
                have hwm : IntKind.i64.wrap ((k : Int) - (L.length : Int)) = (j : Int) := by rw [IntWalk.i64_in _ (by have := HLN6.out; have := HA30.out; omega)]; omega
                have HWM := Lib.hid hwm
                by_cases hKv : 0 ≤ ask[j] ∧ ask[j] < (L.length : Int)
                · obtain ⟨q, hqe⟩ : ∃ q : Nat, ask[j] = (q : Int) := ⟨ask[j].toNat, by omega⟩
                  have hq : q < L.length := by omega
                  rw [hqe] at hca
                  clear hqe hKv hj
                  obtain ⟨x, hx⟩ : ∃ x, x = L[q] := ⟨_, rfl⟩
                  have HMEM := Lib.hid (show x ∈ L from hx ▸ List.getElem_mem hq)
                  have hnum : num L x = q := by rw [hx]; exact num_at HPR.out.ar.ok hq
                  have HGET := Lib.hid (hnum ▸ AGet_some HPR.out.ar HMEM.out)
                  have HX := Lib.hid hx
                  have HQ := Lib.hid hq
                  clear hx hnum
                  go_wp2_with fail
                  refine HGET.out.mono ?_
                  rintro e w8 ⟨h8, rfl, f8, b8⟩
                  obtain ⟨W9, hW9⟩ : ∃ W9, W9 = w8.alloc (x.box h8) := ⟨_, rfl⟩
                  have B89 := Lib.hid (show Below w8.heap.size w8 W9 from hW9 ▸ below_one _ _)
                  have B9 := Lib.hid (Trm.go b8 B89.out)
                  have HX9 := Lib.hid (show W9.heap[w8.heap.size]? = some (x.box h8) from hW9 ▸ World.alloc_heap_new w8 _)
                  have HIX := Lib.hid (carry f8.1.here B89.out)
                  have HP9 := Lib.hid (HPR.out.below B9.out)
                  have hka := AKids_some HP9.out.ar HQ.out
                  rw [← HX.out] at hka
                  have HKA := Lib.hid hka
                  clear hka
                  have HKB := Lib.hid (fun (W : World) (hW : Below W9.heap.size W9 W) => (show Calls Try.prog 17 #[.pointer (some ⟨bb, 0, none⟩), .int .i64 (q : Nat)] W (KidsPost L x W) from HX.out ▸ RKids_some (HP9.out.below hW).rb HQ.out (by have := HLN6.out; omega) HP9.out.ar.ok))
                  unfold Tm.box Tm.vals at hW9
                  unfold Tm.val Tm.vals
                  clear f8 b8 HGET d0
                  go_upto_region 30 with fail
                  rw [← hW9]
                  clear hW9
                  go_wp2_with fail
                  refine HKA.out.mono ?_
                  rintro e w10 ⟨aoA, cpA, rfl, irA, _, b10⟩
                  have HIA0 := Lib.hid irA
                  have HB10 := Lib.hid b10
                  clear irA b10 HKA
                  go_wp2_with fail
                  refine (HKB.out _ HB10.out).mono ?_
                  rintro e w11 ⟨aoB, cpB, rfl, irB, _, b11⟩
                  have HIA := Lib.hid (HIA0.out.below b11)
                  have HIB := Lib.hid irB
                  have HB11 := Lib.hid (Trm.go HB10.out b11)
                  clear irB b11 HKB HIA0
                  have HT3 := Lib.hid (show x.ts.length ≤ 3 from (node_few (may_node (HP9.out.ar.ok.may x HMEM.out))).2.1)
                  go_wp2_with fail
                  go_loopw [29] (fun i w2 => ∃ j : Nat, i = .int .i64 j ∧ j ≤ x.ts.length ∧ Below w11.heap.size w11 w2) (fun i _ => x.ts.length - (intOf i).toNat)
                  case atStart => exact ⟨0, rfl, by omega, Below.refl _ _⟩
                  case round =>
                    obtain ⟨wC, hwC⟩ : ∃ x : World, x = wr := ⟨_, rfl⟩
                    subst hwC
                    obtain ⟨j, rfl, hj, hbC⟩ := hrel
                    have HBC := Lib.hid hbC
                    clear hbC
                    by_cases hjl : j < x.ts.length
                    · obtain ⟨bA, oA, hA, cA⟩ := (HIA.out.below HBC.out).place j (by unfold nums; rw [List.length_map]; exact hjl)
                      obtain ⟨bB, oB, hB, cB⟩ := (HIB.out.below HBC.out).place j (by unfold nums; rw [List.length_map]; exact hjl)
                      subst hA
                      subst hB
                      generalize (nums L x)[j]'(by unfold nums; rw [List.length_map]; exact hjl) = z at cA cB
                      have hwj : IntKind.i64.wrap ((j : Int) + 1) = (j : Int) + 1 := IntWalk.i64_in _ (by have := HT3.out; omega)
                      clear HIA HIB HWS HWKK
                      go_upto_region 37 with fail
                      go_region
                      go_wp2_with fail
                      go_roundw
                      case rel => exact ⟨j + 1, by go_num, hjl, Trm.go HBC.out (Below.refl _ _).drew⟩
                      case measure => simp [intOf]; omega
                    · have HB11C := Lib.hid (Trm.go HB11.out HBC.out)
                      have hql : q < ps.length := by have := HP9.out.rb.row.len; have := HQ.out; omega
                      have hxe : ps[q].1 = x := by
                        have h2 : (ps.map (·.1))[q]'(by rw [List.length_map]; exact hql) = ps[q].1 := List.getElem_map _
                        rw [← h2, HX.out]
                        simp only [HP9.out.rb.row.map]
                      obtain ⟨g, cap, hsl, hcl, hgl⟩ := own_row_cells rfl HP9.out.rb.row.row hql
                      injection hsl with hs1 hs2 hs3
                      subst hs1
                      have hla := HP9.out.rb.row.lie _ (List.getElem_mem hql)
                      rw [hxe] at hla hcl
                      obtain ⟨hh, hhe⟩ : ∃ hh, hh = ps[q].2 := ⟨_, rfl⟩
                      rw [← hhe] at hla hcl
                      have HCG := Lib.hid hcl
                      have HGL := Lib.hid hgl
                      have HLA := Lib.hid hla
                      clear hs2 hs3 hcl hgl hla hhe hxe hql
                      have HMX := Lib.hid (HP9.out.ar.ok.may x HMEM.out)
                      have HSX := Lib.hid (show x.size ≤ 65536 from may_size' HMX.out)
                      have HW9 := Lib.hid HP9.out.bel.size
                      have hsame := RefSame_any x x h8 hh
                      rw [(same_iff.2 rfl : same x x = true)] at hsame
                      have HC1 := Lib.hid (fun (W : World) (hW : Below W9.heap.size W9 W) => (show Calls Try.prog 11 #[.agg #[.int .u8 x.k, .int .i64 x.n, .string x.s, .slice h8.lo x.ls.length h8.lc, .slice h8.to x.ts.length h8.tc], .agg #[.int .u8 x.k, .int .i64 x.n, .string x.s, .slice hh.lo x.ls.length hh.lc, .slice hh.to x.ts.length hh.tc]] W fun e w' => e = .returned (.bool true) ∧ Below W.heap.size W w' from hsame W (carry HIX.out hW) (Tm.In.mono (by have := hW.size; have := HW9.out; omega) _ _ (Tm.In.below (hW.mono HW9.out) _ _ HLA.out))))
                      have HC2 := Lib.hid (fun (W : World) (hW : Below W9.heap.size W9 W) => (show Calls Try.prog 18 #[.pointer (some ⟨A, 0, none⟩), .int .i64 (q : Nat)] W fun e w' => e = .returned (.int .i64 x.size) ∧ Below W.heap.size W w' from HX.out ▸ ASize_some (HP9.out.ar.below hW (Nat.le_refl _)) HQ.out))
                      have HC3 := Lib.hid (fun (W : World) (hW : Below W9.heap.size W9 W) => (show Calls Try.prog 21 #[.agg #[.int .u8 x.k, .int .i64 x.n, .string x.s, .slice h8.lo x.ls.length h8.lc, .slice h8.to x.ts.length h8.tc]] W fun e w' => e = .returned (.int .i64 x.size) ∧ Below W.heap.size W w' from Size_any x h8 W (by have := HSX.out; omega) (carry HIX.out hW)))
                      have HC4 := Lib.hid (fun (W : World) (hW : Below W9.heap.size W9 W) => (show Calls Try.prog 19 #[.pointer (some ⟨A, 0, none⟩), .int .i64 (q : Nat)] W fun e w' => e = .returned (.int .i64 x.ht) ∧ Below W.heap.size W w' from HX.out ▸ ADeep_some (HP9.out.ar.below hW (Nat.le_refl _)) HQ.out))
                      have HC5 := Lib.hid (fun (W : World) (hW : Below W9.heap.size W9 W) => (show Calls Try.prog 22 #[.agg #[.int .u8 x.k, .int .i64 x.n, .string x.s, .slice h8.lo x.ls.length h8.lc, .slice h8.to x.ts.length h8.tc]] W fun e w' => e = .returned (.int .i64 x.ht) ∧ Below W.heap.size W w' from Deep5_any x h8 W (by have := HSX.out; omega) (carry HIX.out hW)))
                      have HC6 := Lib.hid (fun (W : World) (hW : Below W9.heap.size W9 W) => (show Calls Try.prog 20 #[.pointer (some ⟨A, 0, none⟩), .int .i64 (q : Nat)] W fun e w' => e = .returned (.int .i64 x.free) ∧ Below W.heap.size W w' from HX.out ▸ AFree_some (HP9.out.ar.below hW (Nat.le_refl _)) HQ.out))
                      have HC7 := Lib.hid (fun (W : World) (hW : Below W9.heap.size W9 W) => (show Calls Try.prog 23 #[.agg #[.int .u8 x.k, .int .i64 x.n, .string x.s, .slice h8.lo x.ls.length h8.lc, .slice h8.to x.ts.length h8.tc]] W fun e w' => e = .returned (.int .i64 x.free) ∧ Below W.heap.size W w' from RefFree_any x h8 W HMX.out (carry HIX.out hW)))
                      obtain ⟨sz, hsz⟩ : ∃ sz, sz = x.size := ⟨_, rfl⟩
                      obtain ⟨ht, hht⟩ : ∃ ht, ht = x.ht := ⟨_, rfl⟩
                      obtain ⟨fr, hfr⟩ : ∃ fr, fr = x.free := ⟨_, rfl⟩
                      rw [← hsz] at HC2 HC3
                      rw [← hht] at HC4 HC5
                      rw [← hfr] at HC6 HC7
                      clear hsz hht hfr hsame HIA HIB
                      have hq0 : decide ((L.length : Int) ≤ (q : Int)) = false := decide_eq_false (by have := HQ.out; omega)
                      have hqn : (q : Int) < (L.length : Int) := by have := HQ.out; omega
                      have hqm := HQ.out
                      go_upto_region 42 with fail
                      obtain ⟨x0, x1, x2, x3, x4⟩ := Tm.cells (Lvl.keep HB11C.out HX9.out)
                      obtain ⟨k0, k1, k2, k3, k4⟩ := HCG.out.below HB11C.out HGL.out
                      have d0 := one_cell (Lvl.keep HB11C.out HP9.out.rb.box)
                      clear HX
                      go_region_held3 (fun w' => w'.cell? ⟨w8.heap.size, 0, none⟩ = some (.int .u8 x.k) ∧ w'.cell? ⟨w8.heap.size, 1, none⟩ = some (.int .i64 x.n) ∧ w'.cell? ⟨w8.heap.size, 2, none⟩ = some (.string x.s) ∧ w'.cell? ⟨w8.heap.size, 3, none⟩ = some (.slice h8.lo x.ls.length h8.lc) ∧ w'.cell? ⟨w8.heap.size, 4, none⟩ = some (.slice h8.to x.ts.length h8.tc) ∧ w'.cell? ⟨bb, 0, none⟩ = some (.slice (some ⟨g, 0, none⟩) L.length cpL) ∧ w'.cell? ⟨g, q * 5, none⟩ = some (.int .u8 x.k) ∧ w'.cell? ⟨g, q * 5 + 1, none⟩ = some (.int .i64 x.n) ∧ w'.cell? ⟨g, q * 5 + 2, none⟩ = some (.string x.s) ∧ w'.cell? ⟨g, q * 5 + 3, none⟩ = some (.slice hh.lo x.ls.length hh.lc) ∧ w'.cell? ⟨g, q * 5 + 4, none⟩ = some (.slice hh.to x.ts.length hh.tc))
                        (go_keep)
                        (first
                          | (go_at_call 11; (with_reducible refine (HC1.out _ ?_).mono ?_); (first | assumption | exact HB11C.out.drew); rintro e w7 ⟨rfl, bw⟩; have hb70 : Below W9.heap.size W9 w7 := Trm.go (by first | assumption | exact HB11C.out.drew) bw; obtain ⟨x0, x1, x2, x3, x4⟩ := Tm.cells (Lvl.keep hb70 HX9.out); obtain ⟨k0, k1, k2, k3, k4⟩ := HCG.out.below hb70 HGL.out; have d0 := one_cell (Lvl.keep hb70 HP9.out.rb.box))
                          | (go_at_call 18; (with_reducible refine (HC2.out _ ?_).mono ?_); (first | assumption | exact HB11C.out.drew); rintro e w7 ⟨rfl, bw⟩; have hb71 : Below W9.heap.size W9 w7 := Trm.go (by first | assumption | exact HB11C.out.drew) bw; obtain ⟨x0, x1, x2, x3, x4⟩ := Tm.cells (Lvl.keep hb71 HX9.out); obtain ⟨k0, k1, k2, k3, k4⟩ := HCG.out.below hb71 HGL.out; have d0 := one_cell (Lvl.keep hb71 HP9.out.rb.box))
                          | (go_at_call 21; (with_reducible refine (HC3.out _ ?_).mono ?_); (first | assumption | exact HB11C.out.drew); rintro e w7 ⟨rfl, bw⟩; have hb72 : Below W9.heap.size W9 w7 := Trm.go (by first | assumption | exact HB11C.out.drew) bw; obtain ⟨x0, x1, x2, x3, x4⟩ := Tm.cells (Lvl.keep hb72 HX9.out); obtain ⟨k0, k1, k2, k3, k4⟩ := HCG.out.below hb72 HGL.out; have d0 := one_cell (Lvl.keep hb72 HP9.out.rb.box))
                          | (go_at_call 19; (with_reducible refine (HC4.out _ ?_).mono ?_); (first | assumption | exact HB11C.out.drew); rintro e w7 ⟨rfl, bw⟩; have hb73 : Below W9.heap.size W9 w7 := Trm.go (by first | assumption | exact HB11C.out.drew) bw; obtain ⟨x0, x1, x2, x3, x4⟩ := Tm.cells (Lvl.keep hb73 HX9.out); obtain ⟨k0, k1, k2, k3, k4⟩ := HCG.out.below hb73 HGL.out; have d0 := one_cell (Lvl.keep hb73 HP9.out.rb.box))
                          | (go_at_call 22; (with_reducible refine (HC5.out _ ?_).mono ?_); (first | assumption | exact HB11C.out.drew); rintro e w7 ⟨rfl, bw⟩; have hb74 : Below W9.heap.size W9 w7 := Trm.go (by first | assumption | exact HB11C.out.drew) bw; obtain ⟨x0, x1, x2, x3, x4⟩ := Tm.cells (Lvl.keep hb74 HX9.out); obtain ⟨k0, k1, k2, k3, k4⟩ := HCG.out.below hb74 HGL.out; have d0 := one_cell (Lvl.keep hb74 HP9.out.rb.box))
                          | (go_at_call 20; (with_reducible refine (HC6.out _ ?_).mono ?_); (first | assumption | exact HB11C.out.drew); rintro e w7 ⟨rfl, bw⟩; have hb75 : Below W9.heap.size W9 w7 := Trm.go (by first | assumption | exact HB11C.out.drew) bw; obtain ⟨x0, x1, x2, x3, x4⟩ := Tm.cells (Lvl.keep hb75 HX9.out); obtain ⟨k0, k1, k2, k3, k4⟩ := HCG.out.below hb75 HGL.out; have d0 := one_cell (Lvl.keep hb75 HP9.out.rb.box))
                          | (go_at_call 23; (with_reducible refine (HC7.out _ ?_).mono ?_); (first | assumption | exact HB11C.out.drew); rintro e w7 ⟨rfl, bw⟩; have hb76 : Below W9.heap.size W9 w7 := Trm.go (by first | assumption | exact HB11C.out.drew) bw; obtain ⟨x0, x1, x2, x3, x4⟩ := Tm.cells (Lvl.keep hb76 HX9.out); obtain ⟨k0, k1, k2, k3, k4⟩ := HCG.out.below hb76 HGL.out; have d0 := one_cell (Lvl.keep hb76 HP9.out.rb.box)))
                      all_goals
                        have hwk := HWKK.out
                        clear x0 x1 x2 x3 x4 k0 k1 k2 k3 k4 d0
                        go_wp2_with fail
                        go_roundw
                        case rel => exact ⟨k + 1, rfl, by have := HLT.out; omega, Trm.go HBR.out (Trm.go B9.out (by assumption))⟩
                        case measure => simp [intOf]; have := HLT.out; omega
                · obtain ⟨K, hKe⟩ : ∃ K, K = ask[j] := ⟨_, rfl⟩
                  rw [← hKe] at hca hKv
                  have HKN : Hid (K < 0 ∨ (L.length : Int) ≤ K) := Lib.hid (by omega)
                  clear hKe hKv hj
                  have HGN := Lib.hid (AGet_none HPR.out.ar K HKN.out)
                  unfold zeroVal at HGN
                  go_wp2_with fail
                  refine HGN.out.mono ?_
                  rintro e w8 ⟨rfl, b8⟩
                  obtain ⟨W9, hW9⟩ : ∃ W9, W9 = w8.alloc (.cells #[.int .u8 0, .int .i64 0, .string ⟨#[]⟩, .slice none 0 0, .slice none 0 0] 26) := ⟨_, rfl⟩
                  have B9 := Lib.hid (Trm.go b8 (show Below w8.heap.size w8 W9 from hW9 ▸ below_one _ _))
                  have HX9 := Lib.hid (show W9.heap[w8.heap.size]? = some (.cells #[.int .u8 0, .int .i64 0, .string ⟨#[]⟩, .slice none 0 0, .slice none 0 0] 26) from hW9 ▸ World.alloc_heap_new w8 _)
                  have HP9 := Lib.hid (HPR.out.below B9.out)
                  have HKA := Lib.hid (AKids_none HP9.out.ar K HKN.out)
                  clear b8 HGN d0 HWS
                  go_upto_region 30 with fail
                  rw [← hW9]
                  clear hW9
                  go_wp2_with fail
                  refine HKA.out.mono ?_
                  rintro e w10 ⟨rfl, b10⟩
                  have HB10 := Lib.hid b10
                  clear b10 HKA
                  have HKB := Lib.hid (RKids_none (HP9.out.below HB10.out).rb K HKN.out (by have := HLN6.out; omega))
                  go_wp2_with fail
                  refine HKB.out.mono ?_
                  rintro e w11 ⟨rfl, b11⟩
                  have HB11 := Lib.hid (Trm.go HB10.out b11)
                  clear b11 HKB
                  go_wp2_with fail
                  go_loopw [29] (fun i w2 => i = .int .i64 (0 : Nat) ∧ Below w11.heap.size w11 w2) (fun _ _ => 0)
                  case atStart => exact ⟨rfl, Below.refl _ _⟩
                  case round =>
                    obtain ⟨wC, hwC⟩ : ∃ x : World, x = wr := ⟨_, rfl⟩
                    subst hwC
                    obtain ⟨rfl, hbC⟩ := hrel
                    have HB12 := Lib.hid (Trm.go HB11.out hbC)
                    clear hbC
                    go_wp2_with fail
                    refine (ASize_none (HP9.out.ar.below HB12.out (Nat.le_refl _)) K HKN.out).mono ?_
                    rintro e w13 ⟨rfl, b13⟩
                    have HB13 := Lib.hid (Trm.go HB12.out b13)
                    clear b13
                    go_wp2_with fail
                    refine (ADeep_none (HP9.out.ar.below HB13.out (Nat.le_refl _)) K HKN.out).mono ?_
                    rintro e w14 ⟨rfl, b14⟩
                    have HB14 := Lib.hid (Trm.go HB13.out b14)
                    clear b14
                    go_wp2_with fail
                    refine (AFree_none (HP9.out.ar.below HB14.out (Nat.le_refl _)) K HKN.out).mono ?_
                    rintro e w15 ⟨rfl, b15⟩
                    have HB15 := Lib.hid (Trm.go HB14.out b15)
                    clear b15
                    obtain ⟨x0, _, _, _, _⟩ := five_cells (Lvl.keep HB15.out HX9.out)
                    have hwk := HWKK.out
                    go_wp2_with fail
                    go_roundw
                    case rel => exact ⟨k + 1, rfl, by have := HLT.out; omega, Trm.go HBR.out (Trm.go B9.out HB15.out)⟩
                    case measure => simp [intOf]; have := HLT.out; omega
            · have HEND := Lib.hid (HPR.out.bel)
              have hnl : decide ((k : Int) < ((L.length + ask.length : Nat) : Int)) = false := decide_eq_false (by omega)
              go_wp2_with fail
              refine (HWK.out _ HEND.out).mono ?_
              rintro e w7 ⟨rfl, b7⟩
              have H7 := Lib.hid b7
              clear b7
              go_wp2_with fail
              go_ret
              exact ⟨rfl, H7.out⟩
  · go_wp2_with fail
    refine (HWK.out _ H1.out).mono ?_
    rintro e w7 ⟨rfl, b7⟩
    have H7 := Lib.hid b7
    clear b7
    go_wp2_with fail
    go_ret
    exact ⟨rfl, H7.out⟩
end Go.Proofs.Ytjicdmohnfcflaa

