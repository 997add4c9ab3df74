/-
  battenlaw04.SubstTwice: the walk.
-/
import Derived.Test.YtfechgahafbphaaSubPutMath
import Derived.Test.YtfechgahafbphaaSubInstFn
import Derived.Test.YtfechgahafbphaaSubSmall
import Derived.Test.YtfechgahafbphaaSubWorks
namespace Go.Proofs.Ytfechgahafbphaa
open Go.RowKit Go.Shelf Lvl Trm

set_option maxRecDepth 100000 in
set_option maxHeartbeats 40000000 in
theorem law_subst_twice (t u v : Tm) (ht hu hv : Hd) (w : World) (hin : t.In w.heap.size w ht) (hin2 : u.In w.heap.size w hu) (hin3 : v.In w.heap.size w hv) :
    Calls Try.prog 12 #[t.val ht, u.val hu, v.val hv] w fun e w' => e = .returned (.bool true) ∧ Below w.heap.size w w' := by
  have HIN := Lib.hid hin
  have HIN2 := Lib.hid hin2
  have HIN3 := Lib.hid hin3
  have HF := Lib.hid (fun (W : World) (g : Nat) (hW : Below w.heap.size w W) (hg : W.heap[g]? = some (.cells #[.int .u8 t.k, .int .i64 t.n, .string t.s, .slice ht.lo t.ls.length ht.lc, .slice ht.to t.ts.length ht.tc, .int .u8 u.k, .int .i64 u.n, .string u.s, .slice hu.lo u.ls.length hu.lc, .slice hu.to u.ts.length hu.tc, .int .u8 v.k, .int .i64 v.n, .string v.s, .slice hv.lo v.ls.length hv.lc, .slice hv.to v.ts.length hv.tc] 60)) => small_any [t, u, v] (some ⟨g, 0, none⟩) 3 W (row_three hg (carry hin hW) (carry hin2 hW) (carry hin3 hW)) (by simp))
  clear hin hin2 hin3
  unfold Tm.val
  dsimp only [Tm.vals]
  obtain ⟨F, hFe⟩ : ∃ F, [t, u, v].all smallT = F := ⟨_, rfl⟩
  rw [hFe] at HF
  have b3 := below_three w (.cells (t.vals ht) 60) (.cells (u.vals hu) 60) (.cells (v.vals hv) 60)
  have b4 := below_one (((w.alloc (.cells (t.vals ht) 60)).alloc (.cells (u.vals hu) 60)).alloc (.cells (v.vals hv) 60)) (.cells #[.int .u8 t.k, .int .i64 t.n, .string t.s, .slice ht.lo t.ls.length ht.lc, .slice ht.to t.ts.length ht.tc, .int .u8 u.k, .int .i64 u.n, .string u.s, .slice hu.lo u.ls.length hu.lc, .slice hu.to u.ts.length hu.tc, .int .u8 v.k, .int .i64 v.n, .string v.s, .slice hv.lo v.ls.length hv.lc, .slice hv.to v.ts.length hv.tc] 60)
  have HB_0 := Lib.hid (Trm.go b3 b4)
  have XT_0 := Lib.hid (Lvl.keep b4 (new1of3 w (.cells (t.vals ht) 60) (.cells (u.vals hu) 60) (.cells (v.vals hv) 60)))
  have XU_0 := Lib.hid (Lvl.keep b4 (new2of3 w (.cells (t.vals ht) 60) (.cells (u.vals hu) 60) (.cells (v.vals hv) 60)))
  have XV_0 := Lib.hid (Lvl.keep b4 (new3 w (.cells (t.vals ht) 60) (.cells (u.vals hu) 60) (.cells (v.vals hv) 60)))
  have XS_0 := Lib.hid (World.alloc_heap_new (((w.alloc (.cells (t.vals ht) 60)).alloc (.cells (u.vals hu) 60)).alloc (.cells (v.vals hv) 60)) (.cells #[.int .u8 t.k, .int .i64 t.n, .string t.s, .slice ht.lo t.ls.length ht.lc, .slice ht.to t.ts.length ht.tc, .int .u8 u.k, .int .i64 u.n, .string u.s, .slice hu.lo u.ls.length hu.lc, .slice hu.to u.ts.length hu.tc, .int .u8 v.k, .int .i64 v.n, .string v.s, .slice hv.lo v.ls.length hv.lc, .slice hv.to v.ts.length hv.tc] 60))
  have hg3 : (((w.alloc (.cells (t.vals ht) 60)).alloc (.cells (u.vals hu) 60)).alloc (.cells (v.vals hv) 60)).heap.size = w.heap.size + 1 + 1 + 1 := by simp
  rw [hg3] at XS_0
  clear b3 b4 hg3
  have HFE := Lib.hid hFe
  clear hFe
  go_enter Try.func12, Try.ntmps12
  go_wp2_with fail
  refine (HF.out _ _ HB_0.out XS_0.out).mono ?_
  rintro e v1 ⟨rfl, b1⟩
  have HB_1 := Lib.hid (Trm.go HB_0.out b1)
  have XT_1 := Lib.hid (Lvl.keep b1 XT_0.out)
  have XU_1 := Lib.hid (Lvl.keep b1 XU_0.out)
  have XV_1 := Lib.hid (Lvl.keep b1 XV_0.out)
  clear b1
  clear HB_0 XT_0 XU_0 XV_0
  clear XS_0
  obtain ⟨cT0, cT1, cT2, cT3, cT4⟩ := five_cells (show v1.heap[w.heap.size]? = some (.cells #[.int .u8 t.k, .int .i64 t.n, .string t.s, .slice ht.lo t.ls.length ht.lc, .slice ht.to t.ts.length ht.tc] 60) from XT_1.out)
  have lT : w.heap.size < v1.heap.size := (Array.getElem?_eq_some_iff.1 XT_1.out).1
  obtain ⟨cU0, cU1, cU2, cU3, cU4⟩ := five_cells (show v1.heap[w.heap.size + 1]? = some (.cells #[.int .u8 u.k, .int .i64 u.n, .string u.s, .slice hu.lo u.ls.length hu.lc, .slice hu.to u.ts.length hu.tc] 60) from XU_1.out)
  have lU : w.heap.size + 1 < v1.heap.size := (Array.getElem?_eq_some_iff.1 XU_1.out).1
  obtain ⟨cV0, cV1, cV2, cV3, cV4⟩ := five_cells (show v1.heap[w.heap.size + 1 + 1]? = some (.cells #[.int .u8 v.k, .int .i64 v.n, .string v.s, .slice hv.lo v.ls.length hv.lc, .slice hv.to v.ts.length hv.tc] 60) from XV_1.out)
  have lV : w.heap.size + 1 + 1 < v1.heap.size := (Array.getElem?_eq_some_iff.1 XV_1.out).1
  cases F
  · go_wp2_with fail
    refine (sub_works_any _).mono ?_
    rintro e v2 ⟨rfl, b2⟩
    clear cT0 cT1 cT2 cT3 cT4 cU0 cU1 cU2 cU3 cU4 cV0 cV1 cV2 cV3 cV4 lT lU lV
    have HB_2 := Lib.hid (Trm.go HB_1.out b2)
    have XT_2 := Lib.hid (Lvl.keep b2 XT_1.out)
    have XU_2 := Lib.hid (Lvl.keep b2 XU_1.out)
    have XV_2 := Lib.hid (Lvl.keep b2 XV_1.out)
    clear b2
    clear HB_1 XT_1 XU_1 XV_1
    go_wp2_with fail
    go_ret
    exact ⟨rfl, HB_2.out⟩
  · obtain ⟨⟨mt, zt, ft⟩, ⟨mu, zu, fu⟩, mv, zv, fv⟩ := smalls3 HFE.out
    obtain ⟨o, up, one, a, b, x, qA1, qL, qA3, qA4, qA5, qA6, qA7, qA8⟩ := twice_facts mt mu mv zt zu zv ft fu fv
    have A1 := Lib.hid (fun (W : World) (g : Nat) (hW : Below w.heap.size w W)  (hg : W.heap[g]? = some (.cells #[.int .u8 u.k, .int .i64 u.n, .string u.s, .slice hu.lo u.ls.length hu.lc, .slice hu.to u.ts.length hu.tc, .int .u8 v.k, .int .i64 v.n, .string v.s, .slice hv.lo v.ls.length hv.lc, .slice hv.to v.ts.length hv.tc] 60)) => show Calls Try.prog 78 #[.agg #[.int .u8 t.k, .int .i64 t.n, .string t.s, .slice ht.lo t.ls.length ht.lc, .slice ht.to t.ts.length ht.tc], .slice (some ⟨g, 0, none⟩) 2 2] W (fun e w' => ∃ h', e = .returned (.tuple #[o.val h', .int .i64 0]) ∧ o.In w'.heap.size w' h' ∧ Below W.heap.size W w') from by
      have := Inst_any t ht [u, v] (some ⟨g, 0, none⟩) 2 W (carry HIN.out hW) (row_two hg (carry HIN2.out hW) (carry HIN3.out hW)) (by simp)
      rw [qA1] at this
      exact this)
    have HL := Lib.hid (fun (W : World) (hW : Below w.heap.size w W) => show Calls Try.prog 70 #[.agg #[.int .u8 v.k, .int .i64 v.n, .string v.s, .slice hv.lo v.ls.length hv.lc, .slice hv.to v.ts.length hv.tc], .int .i64 0, .int .i64 1] W (fun e w' => ∃ h', e = .returned (.tuple #[up.val h', .int .i64 0]) ∧ up.In w'.heap.size w' h' ∧ Below W.heap.size W w') from by
      have := Lift_any v hv 0 1 W (carry HIN3.out hW) (by omega)
      rw [qL] at this
      exact this)
    have A3 := Lib.hid (fun (W : World) (g : Nat) (hW : Below w.heap.size w W) (k1 : Hd) (ik1 : up.In W.heap.size W k1) (hg : W.heap[g]? = some (.cells #[.int .u8 up.k, .int .i64 up.n, .string up.s, .slice k1.lo up.ls.length k1.lc, .slice k1.to up.ts.length k1.tc] 60)) => show Calls Try.prog 78 #[.agg #[.int .u8 t.k, .int .i64 t.n, .string t.s, .slice ht.lo t.ls.length ht.lc, .slice ht.to t.ts.length ht.tc], .slice (some ⟨g, 0, none⟩) 1 1] W (fun e w' => ∃ h', e = .returned (.tuple #[one.val h', .int .i64 0]) ∧ one.In w'.heap.size w' h' ∧ Below W.heap.size W w') from by
      have := Inst_any t ht [up] (some ⟨g, 0, none⟩) 1 W (carry HIN.out hW) (row_one hg ik1) (by simp)
      rw [qA3] at this
      exact this)
    have A4 := Lib.hid (fun (W : World) (g : Nat) (hW : Below w.heap.size w W) (k1 : Hd) (ik1 : one.In W.heap.size W k1) (hg : W.heap[g]? = some (.cells #[.int .u8 u.k, .int .i64 u.n, .string u.s, .slice hu.lo u.ls.length hu.lc, .slice hu.to u.ts.length hu.tc] 60)) => show Calls Try.prog 78 #[.agg #[.int .u8 one.k, .int .i64 one.n, .string one.s, .slice k1.lo one.ls.length k1.lc, .slice k1.to one.ts.length k1.tc], .slice (some ⟨g, 0, none⟩) 1 1] W (fun e w' => ∃ h', e = .returned (.tuple #[o.val h', .int .i64 0]) ∧ o.In w'.heap.size w' h' ∧ Below W.heap.size W w') from by
      have := Inst_any one k1 [u] (some ⟨g, 0, none⟩) 1 W ik1 (row_one hg (carry HIN2.out hW)) (by simp)
      rw [qA4] at this
      exact this)
    have A5 := Lib.hid (fun (W : World) (g : Nat) (hW : Below w.heap.size w W)  (hg : W.heap[g]? = some (.cells #[.int .u8 u.k, .int .i64 u.n, .string u.s, .slice hu.lo u.ls.length hu.lc, .slice hu.to u.ts.length hu.tc] 60)) => show Calls Try.prog 78 #[.agg #[.int .u8 t.k, .int .i64 t.n, .string t.s, .slice ht.lo t.ls.length ht.lc, .slice ht.to t.ts.length ht.tc], .slice (some ⟨g, 0, none⟩) 1 1] W (fun e w' => ∃ h', e = .returned (.tuple #[a.val h', .int .i64 0]) ∧ a.In w'.heap.size w' h' ∧ Below W.heap.size W w') from by
      have := Inst_any t ht [u] (some ⟨g, 0, none⟩) 1 W (carry HIN.out hW) (row_one hg (carry HIN2.out hW)) (by simp)
      rw [qA5] at this
      exact this)
    have A6 := Lib.hid (fun (W : World) (g : Nat) (hW : Below w.heap.size w W) (k1 : Hd) (ik1 : a.In W.heap.size W k1) (hg : W.heap[g]? = some (.cells #[.int .u8 v.k, .int .i64 v.n, .string v.s, .slice hv.lo v.ls.length hv.lc, .slice hv.to v.ts.length hv.tc] 60)) => show Calls Try.prog 78 #[.agg #[.int .u8 a.k, .int .i64 a.n, .string a.s, .slice k1.lo a.ls.length k1.lc, .slice k1.to a.ts.length k1.tc], .slice (some ⟨g, 0, none⟩) 1 1] W (fun e w' => ∃ h', e = .returned (.tuple #[b.val h', .int .i64 0]) ∧ b.In w'.heap.size w' h' ∧ Below W.heap.size W w') from by
      have := Inst_any a k1 [v] (some ⟨g, 0, none⟩) 1 W ik1 (row_one hg (carry HIN3.out hW)) (by simp)
      rw [qA6] at this
      exact this)
    have A7 := Lib.hid (fun (W : World) (g : Nat) (hW : Below w.heap.size w W)  (hg : W.heap[g]? = some (.cells #[.int .u8 v.k, .int .i64 v.n, .string v.s, .slice hv.lo v.ls.length hv.lc, .slice hv.to v.ts.length hv.tc] 60)) => show Calls Try.prog 78 #[.agg #[.int .u8 u.k, .int .i64 u.n, .string u.s, .slice hu.lo u.ls.length hu.lc, .slice hu.to u.ts.length hu.tc], .slice (some ⟨g, 0, none⟩) 1 1] W (fun e w' => ∃ h', e = .returned (.tuple #[x.val h', .int .i64 0]) ∧ x.In w'.heap.size w' h' ∧ Below W.heap.size W w') from by
      have := Inst_any u hu [v] (some ⟨g, 0, none⟩) 1 W (carry HIN2.out hW) (row_one hg (carry HIN3.out hW)) (by simp)
      rw [qA7] at this
      exact this)
    have A8 := Lib.hid (fun (W : World) (g : Nat) (hW : Below w.heap.size w W) (k1 : Hd) (ik1 : x.In W.heap.size W k1) (hg : W.heap[g]? = some (.cells #[.int .u8 v.k, .int .i64 v.n, .string v.s, .slice hv.lo v.ls.length hv.lc, .slice hv.to v.ts.length hv.tc, .int .u8 x.k, .int .i64 x.n, .string x.s, .slice k1.lo x.ls.length k1.lc, .slice k1.to x.ts.length k1.tc] 60)) => show Calls Try.prog 78 #[.agg #[.int .u8 t.k, .int .i64 t.n, .string t.s, .slice ht.lo t.ls.length ht.lc, .slice ht.to t.ts.length ht.tc], .slice (some ⟨g, 0, none⟩) 2 2] W (fun e w' => ∃ h', e = .returned (.tuple #[b.val h', .int .i64 0]) ∧ b.In w'.heap.size w' h' ∧ Below W.heap.size W w') from by
      have := Inst_any t ht [v, x] (some ⟨g, 0, none⟩) 2 W (carry HIN.out hW) (row_two hg (carry HIN3.out hW) ik1) (by simp)
      rw [qA8] at this
      exact this)
    have HSO := Lib.hid (fun (W : World) (h h' : Hd) (hi : o.In W.heap.size W h) (hi' : o.In W.heap.size W h') => show Calls Try.prog 53 #[.agg #[.int .u8 o.k, .int .i64 o.n, .string o.s, .slice h.lo o.ls.length h.lc, .slice h.to o.ts.length h.tc], .agg #[.int .u8 o.k, .int .i64 o.n, .string o.s, .slice h'.lo o.ls.length h'.lc, .slice h'.to o.ts.length h'.tc]] W (fun e w' => e = .returned (.bool true) ∧ Below W.heap.size W w') from
      (show same o o = true from same_iff.2 rfl) ▸ RefSame_any o o h h' W hi hi')
    have HSB := Lib.hid (fun (W : World) (h h' : Hd) (hi : b.In W.heap.size W h) (hi' : b.In W.heap.size W h') => show Calls Try.prog 53 #[.agg #[.int .u8 b.k, .int .i64 b.n, .string b.s, .slice h.lo b.ls.length h.lc, .slice h.to b.ts.length h.tc], .agg #[.int .u8 b.k, .int .i64 b.n, .string b.s, .slice h'.lo b.ls.length h'.lc, .slice h'.to b.ts.length h'.tc]] W (fun e w' => e = .returned (.bool true) ∧ Below W.heap.size W w') from
      (show same b b = true from same_iff.2 rfl) ▸ RefSame_any b b h h' W hi hi')
    clear qA1 qL qA3 qA4 qA5 qA6 qA7 qA8 HF HFE HIN HIN2 HIN3 mt zt ft mu zu fu mv zv fv
    have es := below_one v1 (.cells #[.int .u8 u.k, .int .i64 u.n, .string u.s, .slice hu.lo u.ls.length hu.lc, .slice hu.to u.ts.length hu.tc, .int .u8 v.k, .int .i64 v.n, .string v.s, .slice hv.lo v.ls.length hv.lc, .slice hv.to v.ts.length hv.tc] 60)
    have HB_2 := Lib.hid (Trm.go HB_1.out es)
    have XT_2 := Lib.hid (Lvl.keep es XT_1.out)
    have XU_2 := Lib.hid (Lvl.keep es XU_1.out)
    have XV_2 := Lib.hid (Lvl.keep es XV_1.out)
    have XG := Lib.hid (World.alloc_heap_new v1 (.cells #[.int .u8 u.k, .int .i64 u.n, .string u.s, .slice hu.lo u.ls.length hu.lc, .slice hu.to u.ts.length hu.tc, .int .u8 v.k, .int .i64 v.n, .string v.s, .slice hv.lo v.ls.length hv.lc, .slice hv.to v.ts.length hv.tc] 60))
    clear es
    clear HB_1 XT_1 XU_1 XV_1
    go_wp2_with fail
    refine (A1.out _ v1.heap.size HB_2.out XG.out).mono ?_
    rintro e v3 ⟨h3, rfl, i3, b3⟩
    clear cT0 cT1 cT2 cT3 cT4 cU0 cU1 cU2 cU3 cU4 cV0 cV1 cV2 cV3 cV4 lT lU lV
    have HB_3 := Lib.hid (Trm.go HB_2.out b3)
    have XT_3 := Lib.hid (Lvl.keep b3 XT_2.out)
    have XU_3 := Lib.hid (Lvl.keep b3 XU_2.out)
    have XV_3 := Lib.hid (Lvl.keep b3 XV_2.out)
    have IB_3 := Lib.hid i3
    clear b3 i3
    clear HB_2 XT_2 XU_2 XV_2
    dsimp only [Tm.val, Tm.vals]
    have e4 := below_one v3 (.cells (o.vals h3) 60)
    have HB_4 := Lib.hid (Trm.go HB_3.out e4)
    have XT_4 := Lib.hid (Lvl.keep e4 XT_3.out)
    have XU_4 := Lib.hid (Lvl.keep e4 XU_3.out)
    have XV_4 := Lib.hid (Lvl.keep e4 XV_3.out)
    have IB_4 := Lib.hid (carry IB_3.out e4)
    have XB_4 := Lib.hid (World.alloc_heap_new v3 (.cells (o.vals h3) 60))
    clear e4
    obtain ⟨cV0, cV1, cV2, cV3, cV4⟩ := five_cells (show v3.heap[w.heap.size + 1 + 1]? = some (.cells #[.int .u8 v.k, .int .i64 v.n, .string v.s, .slice hv.lo v.ls.length hv.lc, .slice hv.to v.ts.length hv.tc] 60) from XV_3.out)
    have lV : w.heap.size + 1 + 1 < v3.heap.size := (Array.getElem?_eq_some_iff.1 XV_3.out).1
    clear HB_3 XT_3 XU_3 XV_3 IB_3
    clear XG
    go_wp2_with fail
    refine (HL.out _ HB_4.out).mono ?_
    rintro e v5 ⟨h5, rfl, i5, b5⟩
    clear cV0 cV1 cV2 cV3 cV4 lV
    have HB_5 := Lib.hid (Trm.go HB_4.out b5)
    have XT_5 := Lib.hid (Lvl.keep b5 XT_4.out)
    have XU_5 := Lib.hid (Lvl.keep b5 XU_4.out)
    have XV_5 := Lib.hid (Lvl.keep b5 XV_4.out)
    have XB_5 := Lib.hid (Lvl.keep b5 XB_4.out)
    have IB_5 := Lib.hid (carry IB_4.out b5)
    have IP_5 := Lib.hid i5
    clear b5 i5
    clear HB_4 XT_4 XU_4 XV_4 XB_4 IB_4
    dsimp only [Tm.val, Tm.vals]
    have e6 := below_one v5 (.cells (up.vals h5) 60)
    have HB_6 := Lib.hid (Trm.go HB_5.out e6)
    have XT_6 := Lib.hid (Lvl.keep e6 XT_5.out)
    have XU_6 := Lib.hid (Lvl.keep e6 XU_5.out)
    have XV_6 := Lib.hid (Lvl.keep e6 XV_5.out)
    have XB_6 := Lib.hid (Lvl.keep e6 XB_5.out)
    have IB_6 := Lib.hid (carry IB_5.out e6)
    have IP_6 := Lib.hid (carry IP_5.out e6)
    have XP_6 := Lib.hid (World.alloc_heap_new v5 (.cells (up.vals h5) 60))
    clear e6
    obtain ⟨cT0, cT1, cT2, cT3, cT4⟩ := five_cells (show v5.heap[w.heap.size]? = some (.cells #[.int .u8 t.k, .int .i64 t.n, .string t.s, .slice ht.lo t.ls.length ht.lc, .slice ht.to t.ts.length ht.tc] 60) from XT_5.out)
    have lT : w.heap.size < v5.heap.size := (Array.getElem?_eq_some_iff.1 XT_5.out).1
    clear HB_5 XT_5 XU_5 XV_5 XB_5 IB_5 IP_5
    have es := below_one (v5.alloc (.cells (up.vals h5) 60)) (.cells #[.int .u8 up.k, .int .i64 up.n, .string up.s, .slice h5.lo up.ls.length h5.lc, .slice h5.to up.ts.length h5.tc] 60)
    have HB_7 := Lib.hid (Trm.go HB_6.out es)
    have XT_7 := Lib.hid (Lvl.keep es XT_6.out)
    have XU_7 := Lib.hid (Lvl.keep es XU_6.out)
    have XV_7 := Lib.hid (Lvl.keep es XV_6.out)
    have XB_7 := Lib.hid (Lvl.keep es XB_6.out)
    have XP_7 := Lib.hid (Lvl.keep es XP_6.out)
    have IB_7 := Lib.hid (carry IB_6.out es)
    have IP_7 := Lib.hid (carry IP_6.out es)
    have XG := Lib.hid (new2 v5 (.cells (up.vals h5) 60) (.cells #[.int .u8 up.k, .int .i64 up.n, .string up.s, .slice h5.lo up.ls.length h5.lc, .slice h5.to up.ts.length h5.tc] 60))
    clear es
    clear HB_6 XT_6 XU_6 XV_6 XB_6 XP_6 IB_6 IP_6
    go_wp2_with fail
    refine (A3.out _ (v5.heap.size + 1) HB_7.out h5 IP_7.out XG.out).mono ?_
    rintro e v8 ⟨h8, rfl, i8, b8⟩
    clear cT0 cT1 cT2 cT3 cT4 lT
    have HB_8 := Lib.hid (Trm.go HB_7.out b8)
    have XT_8 := Lib.hid (Lvl.keep b8 XT_7.out)
    have XU_8 := Lib.hid (Lvl.keep b8 XU_7.out)
    have XV_8 := Lib.hid (Lvl.keep b8 XV_7.out)
    have XB_8 := Lib.hid (Lvl.keep b8 XB_7.out)
    have XP_8 := Lib.hid (Lvl.keep b8 XP_7.out)
    have IB_8 := Lib.hid (carry IB_7.out b8)
    have IP_8 := Lib.hid (carry IP_7.out b8)
    have IO_8 := Lib.hid i8
    clear b8 i8
    clear HB_7 XT_7 XU_7 XV_7 XB_7 XP_7 IB_7 IP_7
    dsimp only [Tm.val, Tm.vals]
    have e9 := below_one v8 (.cells (one.vals h8) 60)
    have HB_9 := Lib.hid (Trm.go HB_8.out e9)
    have XT_9 := Lib.hid (Lvl.keep e9 XT_8.out)
    have XU_9 := Lib.hid (Lvl.keep e9 XU_8.out)
    have XV_9 := Lib.hid (Lvl.keep e9 XV_8.out)
    have XB_9 := Lib.hid (Lvl.keep e9 XB_8.out)
    have XP_9 := Lib.hid (Lvl.keep e9 XP_8.out)
    have IB_9 := Lib.hid (carry IB_8.out e9)
    have IP_9 := Lib.hid (carry IP_8.out e9)
    have IO_9 := Lib.hid (carry IO_8.out e9)
    have XO_9 := Lib.hid (World.alloc_heap_new v8 (.cells (one.vals h8) 60))
    clear e9
    obtain ⟨cU0, cU1, cU2, cU3, cU4⟩ := five_cells (show v8.heap[w.heap.size + 1]? = some (.cells #[.int .u8 u.k, .int .i64 u.n, .string u.s, .slice hu.lo u.ls.length hu.lc, .slice hu.to u.ts.length hu.tc] 60) from XU_8.out)
    have lU : w.heap.size + 1 < v8.heap.size := (Array.getElem?_eq_some_iff.1 XU_8.out).1
    clear HB_8 XT_8 XU_8 XV_8 XB_8 XP_8 IB_8 IP_8 IO_8
    clear XG
    have es := below_one (v8.alloc (.cells (one.vals h8) 60)) (.cells #[.int .u8 u.k, .int .i64 u.n, .string u.s, .slice hu.lo u.ls.length hu.lc, .slice hu.to u.ts.length hu.tc] 60)
    have HB_10 := Lib.hid (Trm.go HB_9.out es)
    have XT_10 := Lib.hid (Lvl.keep es XT_9.out)
    have XU_10 := Lib.hid (Lvl.keep es XU_9.out)
    have XV_10 := Lib.hid (Lvl.keep es XV_9.out)
    have XB_10 := Lib.hid (Lvl.keep es XB_9.out)
    have XO_10 := Lib.hid (Lvl.keep es XO_9.out)
    have IB_10 := Lib.hid (carry IB_9.out es)
    have IO_10 := Lib.hid (carry IO_9.out es)
    have XG := Lib.hid (new2 v8 (.cells (one.vals h8) 60) (.cells #[.int .u8 u.k, .int .i64 u.n, .string u.s, .slice hu.lo u.ls.length hu.lc, .slice hu.to u.ts.length hu.tc] 60))
    clear es
    clear HB_9 XT_9 XU_9 XV_9 XB_9 XO_9 IB_9 IO_9
    go_wp2_with fail
    refine (A4.out _ (v8.heap.size + 1) HB_10.out h8 IO_10.out XG.out).mono ?_
    rintro e v11 ⟨h11, rfl, i11, b11⟩
    clear cU0 cU1 cU2 cU3 cU4 lU
    have HB_11 := Lib.hid (Trm.go HB_10.out b11)
    have XT_11 := Lib.hid (Lvl.keep b11 XT_10.out)
    have XU_11 := Lib.hid (Lvl.keep b11 XU_10.out)
    have XV_11 := Lib.hid (Lvl.keep b11 XV_10.out)
    have XB_11 := Lib.hid (Lvl.keep b11 XB_10.out)
    have XO_11 := Lib.hid (Lvl.keep b11 XO_10.out)
    have IB_11 := Lib.hid (carry IB_10.out b11)
    have IO_11 := Lib.hid (carry IO_10.out b11)
    have IW_11 := Lib.hid i11
    clear b11 i11
    clear HB_10 XT_10 XU_10 XV_10 XB_10 XO_10 IB_10 IO_10
    dsimp only [Tm.val, Tm.vals]
    have e12 := below_one v11 (.cells (o.vals h11) 60)
    have HB_12 := Lib.hid (Trm.go HB_11.out e12)
    have XT_12 := Lib.hid (Lvl.keep e12 XT_11.out)
    have XU_12 := Lib.hid (Lvl.keep e12 XU_11.out)
    have XV_12 := Lib.hid (Lvl.keep e12 XV_11.out)
    have XB_12 := Lib.hid (Lvl.keep e12 XB_11.out)
    have XO_12 := Lib.hid (Lvl.keep e12 XO_11.out)
    have IB_12 := Lib.hid (carry IB_11.out e12)
    have IO_12 := Lib.hid (carry IO_11.out e12)
    have IW_12 := Lib.hid (carry IW_11.out e12)
    have XW_12 := Lib.hid (World.alloc_heap_new v11 (.cells (o.vals h11) 60))
    clear e12
    obtain ⟨cB0, cB1, cB2, cB3, cB4⟩ := five_cells (show v11.heap[v3.heap.size]? = some (.cells #[.int .u8 o.k, .int .i64 o.n, .string o.s, .slice h3.lo o.ls.length h3.lc, .slice h3.to o.ts.length h3.tc] 60) from XB_11.out)
    have lB : v3.heap.size < v11.heap.size := (Array.getElem?_eq_some_iff.1 XB_11.out).1
    clear HB_11 XT_11 XU_11 XV_11 XB_11 XO_11 IB_11 IO_11 IW_11
    clear XG
    go_wp2_with fail
    refine (HSO.out _ h3 h11 IB_12.out IW_12.out).mono ?_
    rintro e v13 ⟨rfl, b13⟩
    clear cB0 cB1 cB2 cB3 cB4 lB
    have HB_13 := Lib.hid (Trm.go HB_12.out b13)
    have XT_13 := Lib.hid (Lvl.keep b13 XT_12.out)
    have XU_13 := Lib.hid (Lvl.keep b13 XU_12.out)
    have XV_13 := Lib.hid (Lvl.keep b13 XV_12.out)
    have XB_13 := Lib.hid (Lvl.keep b13 XB_12.out)
    have XW_13 := Lib.hid (Lvl.keep b13 XW_12.out)
    have IB_13 := Lib.hid (carry IB_12.out b13)
    have IW_13 := Lib.hid (carry IW_12.out b13)
    clear b13
    clear HB_12 XT_12 XU_12 XV_12 XB_12 XW_12 IB_12 IW_12
    obtain ⟨cT0, cT1, cT2, cT3, cT4⟩ := five_cells (show v13.heap[w.heap.size]? = some (.cells #[.int .u8 t.k, .int .i64 t.n, .string t.s, .slice ht.lo t.ls.length ht.lc, .slice ht.to t.ts.length ht.tc] 60) from XT_13.out)
    have lT : w.heap.size < v13.heap.size := (Array.getElem?_eq_some_iff.1 XT_13.out).1
    obtain ⟨cU0, cU1, cU2, cU3, cU4⟩ := five_cells (show v13.heap[w.heap.size + 1]? = some (.cells #[.int .u8 u.k, .int .i64 u.n, .string u.s, .slice hu.lo u.ls.length hu.lc, .slice hu.to u.ts.length hu.tc] 60) from XU_13.out)
    have lU : w.heap.size + 1 < v13.heap.size := (Array.getElem?_eq_some_iff.1 XU_13.out).1
    have es := below_one v13 (.cells #[.int .u8 u.k, .int .i64 u.n, .string u.s, .slice hu.lo u.ls.length hu.lc, .slice hu.to u.ts.length hu.tc] 60)
    have HB_14 := Lib.hid (Trm.go HB_13.out es)
    have XT_14 := Lib.hid (Lvl.keep es XT_13.out)
    have XU_14 := Lib.hid (Lvl.keep es XU_13.out)
    have XV_14 := Lib.hid (Lvl.keep es XV_13.out)
    have XG := Lib.hid (World.alloc_heap_new v13 (.cells #[.int .u8 u.k, .int .i64 u.n, .string u.s, .slice hu.lo u.ls.length hu.lc, .slice hu.to u.ts.length hu.tc] 60))
    clear es
    clear HB_13 XT_13 XU_13 XV_13
    go_wp2_with fail
    refine (A5.out _ v13.heap.size HB_14.out XG.out).mono ?_
    rintro e v15 ⟨h15, rfl, i15, b15⟩
    clear cT0 cT1 cT2 cT3 cT4 cU0 cU1 cU2 cU3 cU4 lT lU
    have HB_15 := Lib.hid (Trm.go HB_14.out b15)
    have XT_15 := Lib.hid (Lvl.keep b15 XT_14.out)
    have XU_15 := Lib.hid (Lvl.keep b15 XU_14.out)
    have XV_15 := Lib.hid (Lvl.keep b15 XV_14.out)
    have IA_15 := Lib.hid i15
    clear b15 i15
    clear HB_14 XT_14 XU_14 XV_14
    dsimp only [Tm.val, Tm.vals]
    have e16 := below_one v15 (.cells (a.vals h15) 60)
    have HB_16 := Lib.hid (Trm.go HB_15.out e16)
    have XT_16 := Lib.hid (Lvl.keep e16 XT_15.out)
    have XU_16 := Lib.hid (Lvl.keep e16 XU_15.out)
    have XV_16 := Lib.hid (Lvl.keep e16 XV_15.out)
    have IA_16 := Lib.hid (carry IA_15.out e16)
    have XA_16 := Lib.hid (World.alloc_heap_new v15 (.cells (a.vals h15) 60))
    clear e16
    obtain ⟨cV0, cV1, cV2, cV3, cV4⟩ := five_cells (show v15.heap[w.heap.size + 1 + 1]? = some (.cells #[.int .u8 v.k, .int .i64 v.n, .string v.s, .slice hv.lo v.ls.length hv.lc, .slice hv.to v.ts.length hv.tc] 60) from XV_15.out)
    have lV : w.heap.size + 1 + 1 < v15.heap.size := (Array.getElem?_eq_some_iff.1 XV_15.out).1
    clear HB_15 XT_15 XU_15 XV_15 IA_15
    clear XG
    have es := below_one (v15.alloc (.cells (a.vals h15) 60)) (.cells #[.int .u8 v.k, .int .i64 v.n, .string v.s, .slice hv.lo v.ls.length hv.lc, .slice hv.to v.ts.length hv.tc] 60)
    have HB_17 := Lib.hid (Trm.go HB_16.out es)
    have XT_17 := Lib.hid (Lvl.keep es XT_16.out)
    have XU_17 := Lib.hid (Lvl.keep es XU_16.out)
    have XV_17 := Lib.hid (Lvl.keep es XV_16.out)
    have XA_17 := Lib.hid (Lvl.keep es XA_16.out)
    have IA_17 := Lib.hid (carry IA_16.out es)
    have XG := Lib.hid (new2 v15 (.cells (a.vals h15) 60) (.cells #[.int .u8 v.k, .int .i64 v.n, .string v.s, .slice hv.lo v.ls.length hv.lc, .slice hv.to v.ts.length hv.tc] 60))
    clear es
    clear HB_16 XT_16 XU_16 XV_16 XA_16 IA_16
    go_wp2_with fail
    refine (A6.out _ (v15.heap.size + 1) HB_17.out h15 IA_17.out XG.out).mono ?_
    rintro e v18 ⟨h18, rfl, i18, b18⟩
    clear cV0 cV1 cV2 cV3 cV4 lV
    have HB_18 := Lib.hid (Trm.go HB_17.out b18)
    have XT_18 := Lib.hid (Lvl.keep b18 XT_17.out)
    have XU_18 := Lib.hid (Lvl.keep b18 XU_17.out)
    have XV_18 := Lib.hid (Lvl.keep b18 XV_17.out)
    have XA_18 := Lib.hid (Lvl.keep b18 XA_17.out)
    have IA_18 := Lib.hid (carry IA_17.out b18)
    have IB_18 := Lib.hid i18
    clear b18 i18
    clear HB_17 XT_17 XU_17 XV_17 XA_17 IA_17
    dsimp only [Tm.val, Tm.vals]
    have e19 := below_one v18 (.cells (b.vals h18) 60)
    have HB_19 := Lib.hid (Trm.go HB_18.out e19)
    have XT_19 := Lib.hid (Lvl.keep e19 XT_18.out)
    have XU_19 := Lib.hid (Lvl.keep e19 XU_18.out)
    have XV_19 := Lib.hid (Lvl.keep e19 XV_18.out)
    have XA_19 := Lib.hid (Lvl.keep e19 XA_18.out)
    have IA_19 := Lib.hid (carry IA_18.out e19)
    have IB_19 := Lib.hid (carry IB_18.out e19)
    have XB_19 := Lib.hid (World.alloc_heap_new v18 (.cells (b.vals h18) 60))
    clear e19
    obtain ⟨cU0, cU1, cU2, cU3, cU4⟩ := five_cells (show v18.heap[w.heap.size + 1]? = some (.cells #[.int .u8 u.k, .int .i64 u.n, .string u.s, .slice hu.lo u.ls.length hu.lc, .slice hu.to u.ts.length hu.tc] 60) from XU_18.out)
    have lU : w.heap.size + 1 < v18.heap.size := (Array.getElem?_eq_some_iff.1 XU_18.out).1
    obtain ⟨cV0, cV1, cV2, cV3, cV4⟩ := five_cells (show v18.heap[w.heap.size + 1 + 1]? = some (.cells #[.int .u8 v.k, .int .i64 v.n, .string v.s, .slice hv.lo v.ls.length hv.lc, .slice hv.to v.ts.length hv.tc] 60) from XV_18.out)
    have lV : w.heap.size + 1 + 1 < v18.heap.size := (Array.getElem?_eq_some_iff.1 XV_18.out).1
    clear HB_18 XT_18 XU_18 XV_18 XA_18 IA_18 IB_18
    clear XG
    have es := below_one (v18.alloc (.cells (b.vals h18) 60)) (.cells #[.int .u8 v.k, .int .i64 v.n, .string v.s, .slice hv.lo v.ls.length hv.lc, .slice hv.to v.ts.length hv.tc] 60)
    have HB_20 := Lib.hid (Trm.go HB_19.out es)
    have XT_20 := Lib.hid (Lvl.keep es XT_19.out)
    have XU_20 := Lib.hid (Lvl.keep es XU_19.out)
    have XV_20 := Lib.hid (Lvl.keep es XV_19.out)
    have XB_20 := Lib.hid (Lvl.keep es XB_19.out)
    have IB_20 := Lib.hid (carry IB_19.out es)
    have XG := Lib.hid (new2 v18 (.cells (b.vals h18) 60) (.cells #[.int .u8 v.k, .int .i64 v.n, .string v.s, .slice hv.lo v.ls.length hv.lc, .slice hv.to v.ts.length hv.tc] 60))
    clear es
    clear HB_19 XT_19 XU_19 XV_19 XB_19 IB_19
    go_wp2_with fail
    refine (A7.out _ (v18.heap.size + 1) HB_20.out XG.out).mono ?_
    rintro e v21 ⟨h21, rfl, i21, b21⟩
    clear cU0 cU1 cU2 cU3 cU4 cV0 cV1 cV2 cV3 cV4 lU lV
    have HB_21 := Lib.hid (Trm.go HB_20.out b21)
    have XT_21 := Lib.hid (Lvl.keep b21 XT_20.out)
    have XU_21 := Lib.hid (Lvl.keep b21 XU_20.out)
    have XV_21 := Lib.hid (Lvl.keep b21 XV_20.out)
    have XB_21 := Lib.hid (Lvl.keep b21 XB_20.out)
    have IB_21 := Lib.hid (carry IB_20.out b21)
    have IX_21 := Lib.hid i21
    clear b21 i21
    clear HB_20 XT_20 XU_20 XV_20 XB_20 IB_20
    dsimp only [Tm.val, Tm.vals]
    have e22 := below_one v21 (.cells (x.vals h21) 60)
    have HB_22 := Lib.hid (Trm.go HB_21.out e22)
    have XT_22 := Lib.hid (Lvl.keep e22 XT_21.out)
    have XU_22 := Lib.hid (Lvl.keep e22 XU_21.out)
    have XV_22 := Lib.hid (Lvl.keep e22 XV_21.out)
    have XB_22 := Lib.hid (Lvl.keep e22 XB_21.out)
    have IB_22 := Lib.hid (carry IB_21.out e22)
    have IX_22 := Lib.hid (carry IX_21.out e22)
    have XX_22 := Lib.hid (World.alloc_heap_new v21 (.cells (x.vals h21) 60))
    clear e22
    obtain ⟨cT0, cT1, cT2, cT3, cT4⟩ := five_cells (show v21.heap[w.heap.size]? = some (.cells #[.int .u8 t.k, .int .i64 t.n, .string t.s, .slice ht.lo t.ls.length ht.lc, .slice ht.to t.ts.length ht.tc] 60) from XT_21.out)
    have lT : w.heap.size < v21.heap.size := (Array.getElem?_eq_some_iff.1 XT_21.out).1
    obtain ⟨cV0, cV1, cV2, cV3, cV4⟩ := five_cells (show v21.heap[w.heap.size + 1 + 1]? = some (.cells #[.int .u8 v.k, .int .i64 v.n, .string v.s, .slice hv.lo v.ls.length hv.lc, .slice hv.to v.ts.length hv.tc] 60) from XV_21.out)
    have lV : w.heap.size + 1 + 1 < v21.heap.size := (Array.getElem?_eq_some_iff.1 XV_21.out).1
    clear HB_21 XT_21 XU_21 XV_21 XB_21 IB_21 IX_21
    clear XG
    have es := below_one (v21.alloc (.cells (x.vals h21) 60)) (.cells #[.int .u8 v.k, .int .i64 v.n, .string v.s, .slice hv.lo v.ls.length hv.lc, .slice hv.to v.ts.length hv.tc, .int .u8 x.k, .int .i64 x.n, .string x.s, .slice h21.lo x.ls.length h21.lc, .slice h21.to x.ts.length h21.tc] 60)
    have HB_23 := Lib.hid (Trm.go HB_22.out es)
    have XT_23 := Lib.hid (Lvl.keep es XT_22.out)
    have XU_23 := Lib.hid (Lvl.keep es XU_22.out)
    have XV_23 := Lib.hid (Lvl.keep es XV_22.out)
    have XB_23 := Lib.hid (Lvl.keep es XB_22.out)
    have XX_23 := Lib.hid (Lvl.keep es XX_22.out)
    have IB_23 := Lib.hid (carry IB_22.out es)
    have IX_23 := Lib.hid (carry IX_22.out es)
    have XG := Lib.hid (new2 v21 (.cells (x.vals h21) 60) (.cells #[.int .u8 v.k, .int .i64 v.n, .string v.s, .slice hv.lo v.ls.length hv.lc, .slice hv.to v.ts.length hv.tc, .int .u8 x.k, .int .i64 x.n, .string x.s, .slice h21.lo x.ls.length h21.lc, .slice h21.to x.ts.length h21.tc] 60))
    clear es
    clear HB_22 XT_22 XU_22 XV_22 XB_22 XX_22 IB_22 IX_22
    go_wp2_with fail
    refine (A8.out _ (v21.heap.size + 1) HB_23.out h21 IX_23.out XG.out).mono ?_
    rintro e v24 ⟨h24, rfl, i24, b24⟩
    clear cT0 cT1 cT2 cT3 cT4 cV0 cV1 cV2 cV3 cV4 lT lV
    have HB_24 := Lib.hid (Trm.go HB_23.out b24)
    have XT_24 := Lib.hid (Lvl.keep b24 XT_23.out)
    have XU_24 := Lib.hid (Lvl.keep b24 XU_23.out)
    have XV_24 := Lib.hid (Lvl.keep b24 XV_23.out)
    have XB_24 := Lib.hid (Lvl.keep b24 XB_23.out)
    have XX_24 := Lib.hid (Lvl.keep b24 XX_23.out)
    have IB_24 := Lib.hid (carry IB_23.out b24)
    have IX_24 := Lib.hid (carry IX_23.out b24)
    have IC_24 := Lib.hid i24
    clear b24 i24
    clear HB_23 XT_23 XU_23 XV_23 XB_23 XX_23 IB_23 IX_23
    dsimp only [Tm.val, Tm.vals]
    have e25 := below_one v24 (.cells (b.vals h24) 60)
    have HB_25 := Lib.hid (Trm.go HB_24.out e25)
    have XT_25 := Lib.hid (Lvl.keep e25 XT_24.out)
    have XU_25 := Lib.hid (Lvl.keep e25 XU_24.out)
    have XV_25 := Lib.hid (Lvl.keep e25 XV_24.out)
    have XB_25 := Lib.hid (Lvl.keep e25 XB_24.out)
    have XX_25 := Lib.hid (Lvl.keep e25 XX_24.out)
    have IB_25 := Lib.hid (carry IB_24.out e25)
    have IX_25 := Lib.hid (carry IX_24.out e25)
    have IC_25 := Lib.hid (carry IC_24.out e25)
    have XC_25 := Lib.hid (World.alloc_heap_new v24 (.cells (b.vals h24) 60))
    clear e25
    obtain ⟨cB0, cB1, cB2, cB3, cB4⟩ := five_cells (show v24.heap[v18.heap.size]? = some (.cells #[.int .u8 b.k, .int .i64 b.n, .string b.s, .slice h18.lo b.ls.length h18.lc, .slice h18.to b.ts.length h18.tc] 60) from XB_24.out)
    have lB : v18.heap.size < v24.heap.size := (Array.getElem?_eq_some_iff.1 XB_24.out).1
    clear HB_24 XT_24 XU_24 XV_24 XB_24 XX_24 IB_24 IX_24 IC_24
    clear XG
    go_wp2_with fail
    refine (HSB.out _ h18 h24 IB_25.out IC_25.out).mono ?_
    rintro e v26 ⟨rfl, b26⟩
    clear cB0 cB1 cB2 cB3 cB4 lB
    have HB_26 := Lib.hid (Trm.go HB_25.out b26)
    have XT_26 := Lib.hid (Lvl.keep b26 XT_25.out)
    have XU_26 := Lib.hid (Lvl.keep b26 XU_25.out)
    have XV_26 := Lib.hid (Lvl.keep b26 XV_25.out)
    have XB_26 := Lib.hid (Lvl.keep b26 XB_25.out)
    have XC_26 := Lib.hid (Lvl.keep b26 XC_25.out)
    have IB_26 := Lib.hid (carry IB_25.out b26)
    have IC_26 := Lib.hid (carry IC_25.out b26)
    clear b26
    clear HB_25 XT_25 XU_25 XV_25 XB_25 XC_25 IB_25 IC_25
    go_wp2_with fail
    refine (sub_works_any _).mono ?_
    rintro e v27 ⟨rfl, b27⟩
    have HB_27 := Lib.hid (Trm.go HB_26.out b27)
    have XT_27 := Lib.hid (Lvl.keep b27 XT_26.out)
    have XU_27 := Lib.hid (Lvl.keep b27 XU_26.out)
    have XV_27 := Lib.hid (Lvl.keep b27 XV_26.out)
    have XB_27 := Lib.hid (Lvl.keep b27 XB_26.out)
    have XC_27 := Lib.hid (Lvl.keep b27 XC_26.out)
    have IB_27 := Lib.hid (carry IB_26.out b27)
    have IC_27 := Lib.hid (carry IC_26.out b27)
    clear b27
    clear HB_26 XT_26 XU_26 XV_26 XB_26 XC_26 IB_26 IC_26
    go_wp2_with fail
    go_ret
    exact ⟨rfl, HB_27.out⟩
end Go.Proofs.Ytfechgahafbphaa
