/-
  EnvNil: where there is no environment.
-/
import Derived.Test.YtkbamiheclakmaaGreatQB13
import Derived.Test.YtkbamiheclakmaaGreatQB7
namespace Go.Proofs.YtkbamiheclakmaaGreat
open Go.RowKit Go.Shelf Go.Maps Lvl Trm Env

namespace Env
def Yes (w : World) (e : Ending) (w' : World) : Prop := e = .returned (.bool true) ∧ Below w.heap.size w w'
theorem Yes.go {w W W' : World} {e : Ending} (h : Below w.heap.size w W) (y : Yes W e W') : Yes w e W' := ⟨y.1, Trm.go h y.2⟩
end Env

set_option maxRecDepth 100000 in
set_option maxHeartbeats 8000000 in
theorem law_env_nil (x : Inf) (hx : IHd) (t : Tm) (ht : Hd) (w : World) (hix : x.In w.heap.size w hx) (hit : t.In w.heap.size w ht) :
    Calls Tryz.prog 5 #[.agg (x.vals hx).toArray, t.val ht] w fun e w' => e = .returned (.bool true) ∧ Below w.heap.size w w' := by
  have HKR : ∀ {x : Inf} {h : IHd}, Hid ((Tryz.prog.info? 46).map (·.size) = some (x.vals h).toArray.size) := fun {x h} => Lib.hid infoInf
  have HKZ : Hid (∀ (x : Inf) (h : IHd), Inf.zeros.size = (x.vals h).toArray.size) := Lib.hid (fun _ _ => rfl)
  have HKO : Hid (∀ (x : Inf) (h : IHd), (x.vals h).toArray.all (·.oneCell') = true) := Lib.hid (fun x h => vals_one x h)
  have HKR0 : Hid ((Tryz.prog.info? 46).map (·.size) = some Inf.zeros.size) := Lib.hid infoInf
  obtain ⟨WA, hWA⟩ : ∃ WA, WA = (w.alloc (.cells (x.vals hx).toArray 46)).alloc (t.box ht) := ⟨_, rfl⟩
  have HBA := Lib.hid (show Below w.heap.size w WA from hWA ▸ below_two _ _ _)
  have HX := Lib.hid (show IBox WA w.heap.size x hx from by rw [hWA]; exact new1of2 _ _ _)
  have HT := Lib.hid (show WA.heap[w.heap.size + 1]? = some (t.box ht) from by rw [hWA]; exact new2 _ _ _)
  have HIX := Lib.hid (fun (W : World) (hW : Below WA.heap.size WA W) => Inf.carry hix (Trm.go HBA.out hW))
  have HIT := Lib.hid (fun (W : World) (hW : Below WA.heap.size WA W) => carry hit (Trm.go HBA.out hW))
  have HROW := Lib.hid (fun (W : World) (hW : Below WA.heap.size WA W) => (show InfRow (W.alloc (.cells (x.vals hx).toArray 46)).heap.size (W.alloc (.cells (x.vals hx).toArray 46)) (some ⟨W.heap.size, 0, none⟩) [x] from (one_row (P := fun _ => False) (FirmI.of (HIX.out W hW) (fun _ a => a.elim) (Nat.le_refl _)) (fun _ a => a.elim) _).here))
  have HDP := Lib.hid (fun (W : World) (hW : Below WA.heap.size WA W) => Deep_any t ht W (HIT.out W hW))
  have HTY := Lib.hid (fun (W : World) => type_nil t ht W)
  have HVA := Lib.hid (fun (W : World) => value_nil t ht W)
  have HHT := Lib.hid (fun (W : World) (hW : Below WA.heap.size WA W) => height_nil t ht W (HIT.out W hW))
  have HBXX := Lib.hid (fun (W : World) (hW : Below WA.heap.size WA W) => (HX.out.keep hW : W.heap[w.heap.size]? = some (.cells (x.vals hx).toArray 46)))
  have HBXT := Lib.hid (fun (W : World) (hW : Below WA.heap.size WA W) => Tm.cells (Lvl.keep hW HT.out))
  have HNM := Lib.hid (fun (W : World) (hW : Below WA.heap.size WA W) => (HX.out.keep hW).cell 1)
  have HYES := Lib.hid (fun (W : World) (hW : Below WA.heap.size WA W) => (show Below w.heap.size w W from Trm.go HBA.out hW))
  unfold Tm.val Tm.vals at HDP HTY HVA HHT ⊢
  unfold Tm.box Tm.vals at hWA
  have HKT : ∀ {t : Tm} {h : Hd}, Hid ((Tryz.prog.info? 27).map (·.size) = some (t.vals h).size) := fun {t h} => Lib.hid (by kernel_rfl)
  have HSM := Lib.hid (fun (W : World) => (show Calls Tryz.prog 23 #[.agg Inf.zeros, .agg Inf.zeros] W (fun e w' => e = .returned (.bool true) ∧ Below W.heap.size W w') from same7_any zI zIHd zIHd W (zI_firm (P := fun _ => False)).here (zI_firm (P := fun _ => False)).here (by decide)))
  clear hix hit
  go_enter Tryz.func5, Tryz.ntmps5
  go_upto_region 1 with fail
  rw [← hWA]
  clear hWA
  have hrow := HBXX.out WA (Below.refl _ _)
  go_wp2_with (first
    | (refine wpList_load_row rfl 46 (.tmp 2) rfl w.heap.size rfl 46 _ (0, 0) _ hrow Tryz.underlying46 rfl HKR.out ?_)
    | (refine Go.Great.wpList_buildSliceTo rfl 22 46 1 _ rfl WA.heap.size rfl (some 15) rfl Tryz.underlying22 (x.vals hx).toArray (by kernel_rfl) ?_))
  obtain ⟨WB, hWB⟩ : ∃ WB, WB = WA.alloc (.cells (x.vals hx).toArray 46) := ⟨_, rfl⟩
  have HB1 := Lib.hid (show Below WA.heap.size WA WB from hWB ▸ below_one _ _)
  have HFW := Lib.hid (show Calls Tryz.prog 13 #[.slice (some ⟨WA.heap.size, 0, none⟩) 1 1] WB (FewPost [x] WB) from by rw [hWB]; exact few_any [x] _ 1 _ (HROW.out WA (Below.refl _ _)))
  rw [← hWB]
  clear hWB hrow
  refine HFW.out.mono ?_
  rintro y w2 ⟨b, rfl, hfew, b2⟩
  have HB2 := Lib.hid (Trm.go HB1.out b2)
  have HFEW := Lib.hid hfew
  clear b2 hfew HFW
  cases b
  · go_wp2_with fail
    refine (works7_any _).mono ?_
    rintro y w3 ⟨rfl, b3⟩
    have HB3 := Lib.hid (Trm.go HB2.out b3)
    clear b3
    go_wp2_with fail
    go_ret
    exact ⟨rfl, HYES.out _ HB3.out⟩
  · obtain ⟨t0, t1, t2, t3, t4⟩ := HBXT.out w2 HB2.out
    go_wp2_with fail
    refine (HDP.out w2 HB2.out).mono ?_
    rintro y w3 ⟨rfl, b3⟩
    have HB3 := Lib.hid (Trm.go HB2.out b3)
    clear b3 t0 t1 t2 t3 t4
    cases hdp : t.deep
    · clear hdp
      have n3 : w3.cell? ⟨w.heap.size, 1, none⟩ = some (.string x.name) := HNM.out w3 HB3.out
      go_upto_region 4 with fail
      go_wp2_with fail
      refine (find_nil _ _).mono ?_
      rintro y w4 ⟨rfl, b4⟩
      have HB4 := Lib.hid (Trm.go HB3.out b4)
      clear b4 n3
      go_upto_region 5 with (refine wpList_store_row rfl 46 (.tmp 6) (.tmp 28) rfl w4.heap.size Inf.zeros rfl rfl 46 Inf.zeros (World.alloc_heap_new w4 _) HKR0.out rfl (by kernel_rfl) ?_)
      obtain ⟨W5, hW5⟩ : ∃ W5, W5 = w4.alloc (.cells Inf.zeros 46) := ⟨_, rfl⟩
      rw [World.setRow_alloc_new, ← hW5]
      have HZ5 := Lib.hid (show W5.heap[w4.heap.size]? = some (.cells Inf.zeros 46) from hW5 ▸ World.alloc_heap_new _ _)
      have HB5 := Lib.hid (Trm.go HB4.out (show Below w4.heap.size w4 W5 from hW5 ▸ below_one _ _))
      clear hW5
      obtain ⟨t0, t1, t2, t3, t4⟩ := HBXT.out W5 HB5.out
      go_wp2_with fail
      refine (HTY.out W5).mono ?_
      rintro y w6 ⟨h6, rfl, i6, b6⟩
      have HZ6 := Lib.hid (Lvl.keep b6 HZ5.out)
      have HB6 := Lib.hid (Trm.go HB5.out b6)
      clear b6 i6 t0 t1 t2 t3 t4
      dsimp only
      unfold Tm.val
      go_upto_region 6 with (refine wpList_store_row rfl 27 (.tmp 8) (.tmp 34) rfl w6.heap.size (zeroT.vals h6) rfl rfl 27 _ (World.alloc_heap_new w6 _) HKT.out rfl (by kernel_rfl) ?_)
      rw [World.setRow_alloc_new]
      obtain ⟨W6, hW6⟩ : ∃ W, W = w6.alloc (.cells (zeroT.vals h6) 27) := ⟨_, rfl⟩
      have HZ6b := Lib.hid (show W6.heap[w4.heap.size]? = some (.cells Inf.zeros 46) from hW6 ▸ Lvl.keep (below_one _ _) HZ6.out)
      have HB6b := Lib.hid (Trm.go HB6.out (show Below w6.heap.size w6 W6 from hW6 ▸ below_one _ _))
      rw [← hW6]
      clear hW6
      obtain ⟨t0, t1, t2, t3, t4⟩ := HBXT.out W6 HB6b.out
      go_wp2_with fail
      refine (HVA.out W6).mono ?_
      rintro y w7 ⟨h7, rfl, i7, b7⟩
      have HZ7 := Lib.hid (Lvl.keep b7 HZ6b.out)
      have HB7 := Lib.hid (Trm.go HB6b.out b7)
      clear b7 i7 t0 t1 t2 t3 t4
      dsimp only
      unfold Tm.val
      go_upto_region 7 with (refine wpList_store_row rfl 27 (.tmp 10) (.tmp 40) rfl w7.heap.size (zeroT.vals h7) rfl rfl 27 _ (World.alloc_heap_new w7 _) HKT.out rfl (by kernel_rfl) ?_)
      rw [World.setRow_alloc_new]
      obtain ⟨W7, hW7⟩ : ∃ W, W = w7.alloc (.cells (zeroT.vals h7) 27) := ⟨_, rfl⟩
      have HZ7b := Lib.hid (show W7.heap[w4.heap.size]? = some (.cells Inf.zeros 46) from hW7 ▸ Lvl.keep (below_one _ _) HZ7.out)
      have HB7b := Lib.hid (Trm.go HB7.out (show Below w7.heap.size w7 W7 from hW7 ▸ below_one _ _))
      rw [← hW7]
      clear hW7
      have hrow := HBXX.out W7 HB7b.out
      go_wp2_with (first
        | (refine wpList_load_row rfl 46 (.tmp 2) rfl w.heap.size rfl 46 _ (0, 0) _ hrow Tryz.underlying46 rfl HKR.out ?_)
        | (refine Go.Great.wpList_buildSliceTo rfl 22 46 1 _ rfl W7.heap.size rfl (some 45) rfl Tryz.underlying22 (x.vals hx).toArray (by kernel_rfl) ?_))
      refine (with_nil _ _ _ _).mono ?_
      rintro y w8 ⟨rfl, rfl⟩
      obtain ⟨W8, hW8⟩ : ∃ W, W = W7.alloc (.cells (x.vals hx).toArray 46) := ⟨_, rfl⟩
      have HZ8 := Lib.hid (show W8.heap[w4.heap.size]? = some (.cells Inf.zeros 46) from hW8 ▸ Lvl.keep (below_one _ _) HZ7b.out)
      have HB8 := Lib.hid (Trm.go HB7b.out (show Below W7.heap.size W7 W8 from hW8 ▸ below_one _ _))
      rw [← hW8]
      clear hW8 hrow
      have hrow := HBXX.out W8 HB8.out
      go_wp2_with (first
        | (refine wpList_load_rowG rfl 46 (.tmp 2) rfl (some 53) rfl w.heap.size rfl 46 _ (0, 0) _ hrow Tryz.underlying46 rfl HKR.out ?_)
        | (refine wpList_bsliceG rfl 22 46 1 _ rfl (some 54) rfl (x.vals hx).toArray Tryz.underlying22 (by kernel_rfl) ?_))
      refine (add_nil _ _ _ _).mono ?_
      rintro y w9 ⟨rfl, rfl⟩
      obtain ⟨W9, hW9⟩ : ∃ W, W = W8.alloc (.cells (x.vals hx).toArray 46) := ⟨_, rfl⟩
      have HZ9 := Lib.hid (show W9.heap[w4.heap.size]? = some (.cells Inf.zeros 46) from hW9 ▸ Lvl.keep (below_one _ _) HZ8.out)
      have HB9 := Lib.hid (Trm.go HB8.out (show Below W8.heap.size W8 W9 from hW9 ▸ below_one _ _))
      rw [← hW9]
      clear hW9 hrow
      have hz := HZ9.out
      go_wp2_with (first
        | (refine wpList_load_rowG rfl 46 (.tmp 6) rfl (some 59) rfl w4.heap.size rfl 46 _ (0, 0) _ hz Tryz.underlying46 rfl HKR0.out ?_)
        | (refine wpList_buildG rfl 46 _ rfl (some 60) rfl Inf.zeros (by kernel_rfl) ?_))
      refine (HSM.out W9).mono ?_
      rintro y w10 ⟨rfl, b10⟩
      have HB10 := Lib.hid (Trm.go HB9.out b10)
      clear b10 hz
      go_wp2_with fail
      refine (list_nil _).mono ?_
      rintro y w11 ⟨rfl, rfl⟩
      obtain ⟨t0, t1, t2, t3, t4⟩ := HBXT.out w10 HB10.out
      go_wp2_with fail
      refine (HHT.out w10 HB10.out).mono ?_
      rintro y w12 ⟨rfl, b12⟩
      have HB12 := Lib.hid (Trm.go HB10.out b12)
      clear b12 t0 t1 t2 t3 t4
      go_wp2_with fail
      refine (works7_any _).mono ?_
      rintro y w13 ⟨rfl, b13⟩
      have HB13 := Lib.hid (Trm.go HB12.out b13)
      clear b13
      go_wp2_with fail
      go_ret
      exact ⟨rfl, HYES.out _ HB13.out⟩
    · clear hdp
      go_wp2_with fail
      refine (works7_any _).mono ?_
      rintro y w4 ⟨rfl, b4⟩
      have HB4 := Lib.hid (Trm.go HB3.out b4)
      clear b4
      go_wp2_with fail
      go_ret
      exact ⟨rfl, HYES.out _ HB4.out⟩
end Go.Proofs.YtkbamiheclakmaaGreat


