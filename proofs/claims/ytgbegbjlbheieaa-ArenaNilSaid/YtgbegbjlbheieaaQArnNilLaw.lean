/-
  battenlaw05.ArenaNil: the walk.
-/
import Derived.Test.YtgbegbjlbheieaaQArnWorks
import Derived.Test.YtgbegbjlbheieaaQArnVast
namespace Go.Proofs.Ytgbegbjlbheieaa
open Go.RowKit Go.Shelf Go.Maps Lvl Trm Arn

set_option maxRecDepth 100000 in
set_option maxHeartbeats 8000000 in
theorem law_arena_nil (t : Tm) (h : Hd) (n : Int) (w : World) (hin : t.In w.heap.size w h) :
    Calls Try.prog 5 #[t.val h, .int .i64 n] w fun e w' => e = .returned (.bool true) ∧ Below w.heap.size w w' := by
  obtain ⟨WA, hWA⟩ : ∃ WA, WA = (w.alloc (t.box h)).alloc (.cells (t.vals h) 26) := ⟨_, rfl⟩
  have BA := Lib.hid (show Below w.heap.size w WA from hWA ▸ below_two _ _ _)
  have hzA : WA.heap.size = w.heap.size + 2 := by rw [hWA]; simp
  have hxA : WA.heap[w.heap.size + 1]? = some (.cells (t.vals h) 26) := hWA ▸ new2 _ _ _
  have HXB := Lib.hid (show WA.heap[w.heap.size]? = some (t.box h) from hWA ▸ new1of2 _ _ _)
  have hrow : RowIn WA.heap.size WA (some ⟨w.heap.size + 1, 0, none⟩) 0 [t] := RowIn.mk fun k hk => by
    have hk0 : k = 0 := by simp at hk; omega
    subst hk0
    refine ⟨w.heap.size + 1, 0, rfl, by omega, h, ?_, Tm.In.mono (by omega) _ _ (Tm.In.below BA.out _ _ hin)⟩
    exact Tm.cells (b := w.heap.size + 1) hxA
  have HV := Lib.hid (Vast_any [t] (some ⟨w.heap.size + 1, 0, none⟩) 1 1 4000 WA hrow (by decide))
  have HSZ := Lib.hid hzA
  clear hrow hxA hzA hin
  unfold Tm.box Tm.vals at hWA
  obtain ⟨V, hV⟩ : ∃ V, V = vast [t] 1 4000 := ⟨_, rfl⟩
  rw [← hV] at HV
  have HNV := Lib.hid hV
  clear hV
  have hv : Tm.val t h = .agg #[.int .u8 t.k, .int .i64 t.n, .string t.s, .slice h.lo t.ls.length h.lc, .slice h.to t.ts.length h.tc] := rfl
  rw [hv]
  have HPN := Lib.hid (fun (W : World) => (show Calls Try.prog 11 #[.pointer none, .agg #[.int .u8 t.k, .int .i64 t.n, .string t.s, .slice h.lo t.ls.length h.lc, .slice h.to t.ts.length h.tc]] W _ from Put_nil t h W))
  have HFN := Lib.hid (fun (W : World) => (show Calls Try.prog 17 #[.pointer none, .agg #[.int .u8 t.k, .int .i64 t.n, .string t.s, .slice h.lo t.ls.length h.lc, .slice h.to t.ts.length h.tc]] W _ from Find_nil t h W))
  clear hv
  go_enter Try.func5, Try.ntmps5
  go_wp2_with fail
  rw [← hWA]
  clear hWA
  refine HV.out.mono ?_
  rintro e w1 ⟨rfl, b1⟩
  have H1 := Lib.hid (Trm.go BA.out b1)
  have X1 := Lib.hid (Lvl.keep b1 HXB.out)
  clear b1 HXB
  cases V
  · obtain ⟨x0, x1, x2, x3, x4⟩ := Tm.cells X1.out
    go_wp2_with fail
    refine (HPN.out _).mono ?_
    rintro e w2 ⟨rfl, b2⟩
    have H2 := Lib.hid (Trm.go H1.out b2)
    have X2 := Lib.hid (Lvl.keep b2 X1.out)
    clear b2 H1 X1 x0 x1 x2 x3 x4
    obtain ⟨x0, x1, x2, x3, x4⟩ := Tm.cells X2.out
    go_wp2_with fail
    refine (HFN.out _).mono ?_
    rintro e w3 ⟨rfl, b3⟩
    have H3 := Lib.hid (Trm.go H2.out b3)
    clear b3 H2 X2 x0 x1 x2 x3 x4
    go_wp2_with fail
    refine (AGet_nil n _).mono ?_
    rintro e w4 ⟨rfl, b4⟩
    have H4 := Lib.hid (Trm.go (Trm.go H3.out b4) (below_one w4 (.cells #[.int .u8 0, .int .i64 0, .string ⟨#[]⟩, .slice none 0 0, .slice none 0 0] 26)))
    have Z4 := Lib.hid (World.alloc_heap_new w4 (.cells #[.int .u8 0, .int .i64 0, .string ⟨#[]⟩, .slice none 0 0, .slice none 0 0] 26))
    clear b4 H3
    unfold zeroVal
    go_wp2_with fail
    refine (AKids_nil n _).mono ?_
    rintro e w5 ⟨rfl, b5⟩
    have H5 := Lib.hid (Trm.go H4.out b5)
    have Z5 := Lib.hid (Lvl.keep b5 Z4.out)
    clear b5 H4 Z4
    obtain ⟨y0, _, _, _, _⟩ := five_cells Z5.out
    go_wp2_with fail
    refine (ASize_nil n _).mono ?_
    rintro e w6 ⟨rfl, b6⟩
    have H6 := Lib.hid (Trm.go H5.out b6)
    clear b6 H5 y0
    go_wp2_with fail
    refine (ADeep_nil n _).mono ?_
    rintro e w7 ⟨rfl, b7⟩
    have H7 := Lib.hid (Trm.go H6.out b7)
    clear b7 H6
    go_wp2_with fail
    refine (AFree_nil n _).mono ?_
    rintro e w8 ⟨rfl, b8⟩
    have H8 := Lib.hid (Trm.go H7.out b8)
    clear b8 H7
    go_wp2_with fail
    refine (Len_nil _).mono ?_
    rintro e w9 ⟨rfl, b9⟩
    have H9 := Lib.hid (Trm.go H8.out b9)
    clear b9 H8
    go_wp2_with fail
    refine (works5_any _).mono ?_
    rintro e w10 ⟨rfl, b10⟩
    have H10 := Lib.hid (Trm.go H9.out b10)
    clear b10 H9
    go_wp2_with fail
    go_ret
    exact ⟨rfl, H10.out⟩
  · go_wp2_with fail
    refine (works5_any _).mono ?_
    rintro e w2 ⟨rfl, b2⟩
    have H2 := Lib.hid (Trm.go H1.out b2)
    clear b2 H1
    go_wp2_with fail
    go_ret
    exact ⟨rfl, H2.out⟩
end Go.Proofs.Ytgbegbjlbheieaa

