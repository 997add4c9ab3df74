/-
  arena.Get of a number that is there.
-/
import Derived.Test.YtjicdmohnfcflaaQArnTree
import Derived.Test.YtjicdmohnfcflaaQArnGet
namespace Go.Proofs.Ytjicdmohnfcflaa
open Go.RowKit Go.Shelf Go.Maps Lvl Trm Arn

def Arn.GetPost (w : World) (t : Tm) (e : Ending) (w' : World) : Prop := ∃ h, e = .returned (.tuple #[t.val h, .int .i64 0]) ∧ OwnT w.heap.size w' t h ∧ Below w.heap.size w w'
set_option maxRecDepth 100000 in
set_option maxHeartbeats 2000000 in
theorem AGet_some {w : World} {A : Nat} {L : List Tm} {v : Value} {mo : Option Nat} (h : Ar w A L v mo) {t : Tm} (ht : t ∈ L) : Calls Try.prog 13 #[.pointer (some ⟨A, 0, none⟩), .int .i64 (num L t : Nat)] w (GetPost w t) := by
  have HAR := Lib.hid h
  have HMEM := Lib.hid ht
  obtain ⟨q, hq⟩ : ∃ q, q = num L t := ⟨_, rfl⟩
  rw [← hq]
  have HAT := Lib.hid (fun (o : Obj) => (at_some (h.alloc o) (num_lt ht)).mono (fun e w' ⟨g, he, _, _, _, hb⟩ => (⟨g, he, hb⟩ : ∃ g, e = Ending.returned (Value.tuple #[Value.pointer (some ⟨g, num L t * 31, none⟩), Value.int .i64 0]) ∧ Below (w.alloc o).heap.size (w.alloc o) w')))
  have HTR := Lib.hid (fun (W : World) (hW : Below w.heap.size w W) => tree_any t W A L v mo (h.below hW (Nat.le_refl _)) ht)
  rw [← hq] at HAT HTR
  clear h ht hq
  go_enter Try.func13, Try.ntmps13
  go_wp2_with fail
  refine (HAT.out _).mono ?_
  rintro e w1 ⟨g, rfl, b1⟩
  have HK := Lib.hid (Lvl.keep b1 (World.alloc_heap_new w _))
  have HB := Lib.hid (Trm.go (below_one w _) b1)
  clear b1 HAT
  go_wp2_with fail
  refine (HTR.out _ HB.out).mono ?_
  rintro e w2 ⟨hd, rfl, hf, b2⟩
  have HK2 := Lib.hid (Lvl.keep b2 HK.out)
  have HB2 := Lib.hid (Trm.go HB.out b2)
  have HF := Lib.hid (show FirmS (fun z => z < w.heap.size + 1) w2 t hd from hf.1.less (fun q _ hq => by have := (Array.getElem?_eq_some_iff.1 HK.out).1; show q < w1.heap.size; omega))
  have HSP := Lib.hid (show t.Sp w2 (w.heap.size + 1) w2.heap.size hd from hf.2.mono (by have := (Array.getElem?_eq_some_iff.1 HK.out).1; omega) (Nat.le_refl _))
  obtain ⟨c0, c1, c2, c3, c4⟩ := five_cells HK2.out
  obtain ⟨f0, f1, f2, f3, f4⟩ := five_free HK2.out
  clear b2 hf HTR
  dsimp only [Tm.val, Tm.vals]
  go_wp2_with fail
  have h5 := putT_self HK2.out (.int .u8 t.k) (.int .i64 t.n) (.string t.s) (.slice hd.lo t.ls.length hd.lc) (.slice hd.to t.ts.length hd.tc)
  have b5 := putT_below HB2.out (Nat.le_refl _) (.int .u8 t.k) (.int .i64 t.n) (.string t.s) (.slice hd.lo t.ls.length hd.lc) (.slice hd.to t.ts.length hd.tc)
  have r5 := putT_ran5 w2 w.heap.size (.int .u8 t.k) (.int .i64 t.n) (.string t.s) (.slice hd.lo t.ls.length hd.lc) (.slice hd.to t.ts.length hd.tc)
  unfold putT at h5 b5 r5
  obtain ⟨e0, e1, e2, e3, e4⟩ := five_cells h5
  exact bodyPost_ret (v := .tuple #[t.val hd, .int .i64 0]) (by simp [results, Try.results13, go_sem, e0, e1, e2, e3, e4, Tm.val, Tm.vals]) rfl ⟨_, rfl, ⟨FirmS.turn HF.out r5 (fun z hz => Or.inl (Nat.lt_succ_of_lt hz)), (Tm.Sp.ran r5 _ _ _ _ HSP.out (fun q hq hh => by have hq' : q < w.heap.size + 1 := hq; omega)).mono (Nat.le_succ _) r5.size⟩, b5⟩
end Go.Proofs.Ytjicdmohnfcflaa

