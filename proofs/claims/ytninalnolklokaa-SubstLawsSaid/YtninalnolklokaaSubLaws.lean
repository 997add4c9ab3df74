/-
  battenlaw04.SubstLaws: the walk.
-/
import Derived.Test.YtninalnolklokaaSubLawMath
import Derived.Test.YtninalnolklokaaSubInstFn
import Derived.Test.YtninalnolklokaaSubFew
import Derived.Test.YtninalnolklokaaSubWorks
import Derived.Test.YtninalnolklokaaSubZero
import Derived.Deep.DeepCutAuto
namespace Go.Proofs.Ytninalnolklokaa
open Go.RowKit Go.Shelf Lvl Trm

theorem Trm.row_one {w : World} {g : Nat} {x : Tm} {h : Hd} (hg : w.heap[g]? = some (.cells (x.vals h) 60)) (hi : x.In w.heap.size w h) : RowIn w.heap.size w (some ⟨g, 0, none⟩) 0 [x] := RowIn.mk fun k hk => by
  have hk0 : k = 0 := by simp at hk; omega
  subst hk0
  exact ⟨g, 0, rfl, (Array.getElem?_eq_some_iff.1 hg).1, h, Tm.cells hg, hi⟩

def Trm.CutA (wc : World) (o : Tm) (s26 s27 : Value) (wx : World) : Prop :=
  ∃ X h, s26 = .pointer (some ⟨X, 0, none⟩) ∧ s27 = .int .i64 0 ∧ wx.heap[X]? = some (o.box h) ∧ o.In wx.heap.size wx h ∧ Below wc.heap.size wc wx

set_option maxRecDepth 100000 in
set_option maxHeartbeats 40000000 in
theorem law_subst_laws (t u : Tm) (ht hu : Hd) (a b k : Int) (w : World) (ha0 : 0 ≤ a) (ha1 : a ≤ 65535) (hb0 : 0 ≤ b) (hb1 : b ≤ 65535) (hk0 : 0 ≤ k) (hk1 : k ≤ 65535) (hin : t.In w.heap.size w ht) (hin2 : u.In w.heap.size w hu) :
    Calls Try.prog 11 #[t.val ht, u.val hu, .int .u16 a, .int .u16 b, .int .u16 k] w fun e w' => e = .returned (.bool true) ∧ Below w.heap.size w w' := by
  have hwa : IntKind.i64.wrap a = a := IntWalk.i64_in _ (by omega)
  have hwb : IntKind.i64.wrap b = b := IntWalk.i64_in _ (by omega)
  have hwk : IntKind.i64.wrap k = k := IntWalk.i64_in _ (by omega)
  obtain ⟨x, hx⟩ : ∃ x, a.tmod 1000 = x := ⟨_, rfl⟩
  obtain ⟨y, hy⟩ : ∃ y, b.tmod 1000 = y := ⟨_, rfl⟩
  obtain ⟨n, hn⟩ : ∃ n, k.tmod 1000 = n := ⟨_, rfl⟩
  have hx0 : 0 ≤ x := by rw [← hx]; exact Int.tmod_nonneg _ ha0
  have hx1 : x < 1000 := by rw [← hx]; exact Int.tmod_lt_of_pos _ (by decide)
  have hy0 : 0 ≤ y := by rw [← hy]; exact Int.tmod_nonneg _ hb0
  have hy1 : y < 1000 := by rw [← hy]; exact Int.tmod_lt_of_pos _ (by decide)
  have hn0 : 0 ≤ n := by rw [← hn]; exact Int.tmod_nonneg _ hk0
  have hn1 : n < 1000 := by rw [← hn]; exact Int.tmod_lt_of_pos _ (by decide)
  have HIN := Lib.hid hin
  have HIN2 := Lib.hid hin2
  have HF := Lib.hid (fun (W : World) (g : Nat) (hW : Below w.heap.size w W) (hg : W.heap[g]? = some (.cells (u.vals hu) 60)) => few_any t ht [u] (some ⟨g, 0, none⟩) 1 W (carry hin hW) (row_one hg (carry hin2 hW)) (by simp))
  have HM := Lib.hid (fun (W : World) (hW : Below w.heap.size w W) => RefTMay_any t ht W (carry hin hW))
  have HMU := Lib.hid (fun (W : World) (hW : Below w.heap.size w W) => RefTMay_any u hu W (carry hin2 hW))
  have HFR := Lib.hid (fun (W : World) (hm : t.may = true) (hW : Below w.heap.size w W) => RefFree_any t ht W hm (carry hin hW))
  clear hin hin2
  unfold Tm.val at HF HM HMU HFR ⊢
  dsimp only [Tm.vals] at HF HM HMU HFR ⊢
  generalize fewB t [u] = F at HF
  have HB_0 := Lib.hid ((below_two w (.cells (t.vals ht) 60) (.cells (u.vals hu) 60)).alloc (by simp; omega) (.cells (u.vals hu) 60))
  have XT_0 := Lib.hid (keepA (new1of2 w (.cells (t.vals ht) 60) (.cells (u.vals hu) 60)) (.cells (u.vals hu) 60))
  have XU_0 := Lib.hid (keepA (new2 w (.cells (t.vals ht) 60) (.cells (u.vals hu) 60)) (.cells (u.vals hu) 60))
  have XS_0 := Lib.hid (new3 w (.cells (t.vals ht) 60) (.cells (u.vals hu) 60) (.cells (u.vals hu) 60))
  go_enter Try.func11, Try.ntmps11
  go_wp2_with fail
  refine (HF.out _ _ HB_0.out XS_0.out).mono ?_
  rintro e v1 ⟨rfl, b1⟩
  have HB_1 := Lib.hid (Trm.go HB_0.out b1)
  have XT_1 := Lib.hid (Lvl.keep b1 XT_0.out)
  have XU_1 := Lib.hid (Lvl.keep b1 XU_0.out)
  clear b1
  clear HB_0 XT_0 XU_0
  clear XS_0
  obtain ⟨cT0, cT1, cT2, cT3, cT4⟩ := five_cells (show v1.heap[w.heap.size]? = some (.cells #[.int .u8 t.k, .int .i64 t.n, .string t.s, .slice ht.lo t.ls.length ht.lc, .slice ht.to t.ts.length ht.tc] 60) from XT_1.out)
  have lT : w.heap.size < v1.heap.size := (Array.getElem?_eq_some_iff.1 XT_1.out).1
  obtain ⟨cU0, cU1, cU2, cU3, cU4⟩ := five_cells (show v1.heap[w.heap.size + 1]? = some (.cells #[.int .u8 u.k, .int .i64 u.n, .string u.s, .slice hu.lo u.ls.length hu.lc, .slice hu.to u.ts.length hu.tc] 60) from XU_1.out)
  have lU : w.heap.size + 1 < v1.heap.size := (Array.getElem?_eq_some_iff.1 XU_1.out).1
  cases F
  · go_wp2_with fail
    refine (sub_works_any _).mono ?_
    rintro e v2 ⟨rfl, b2⟩
    clear cT0 cT1 cT2 cT3 cT4 cU0 cU1 cU2 cU3 cU4 lT lU
    have HB_2 := Lib.hid (Trm.go HB_1.out b2)
    have XT_2 := Lib.hid (Lvl.keep b2 XT_1.out)
    have XU_2 := Lib.hid (Lvl.keep b2 XU_1.out)
    clear b2
    clear HB_1 XT_1 XU_1
    go_wp2_with fail
    go_ret
    exact ⟨rfl, HB_2.out⟩
  · go_wp2_with fail
    refine (HM.out _ HB_1.out).mono ?_
    rintro e v2 ⟨rfl, b2⟩
    clear cT0 cT1 cT2 cT3 cT4 cU0 cU1 cU2 cU3 cU4 lT lU
    have HB_2 := Lib.hid (Trm.go HB_1.out b2)
    have XT_2 := Lib.hid (Lvl.keep b2 XT_1.out)
    have XU_2 := Lib.hid (Lvl.keep b2 XU_1.out)
    clear b2
    clear HB_1 XT_1 XU_1
    obtain ⟨cT0, cT1, cT2, cT3, cT4⟩ := five_cells (show v2.heap[w.heap.size]? = some (.cells #[.int .u8 t.k, .int .i64 t.n, .string t.s, .slice ht.lo t.ls.length ht.lc, .slice ht.to t.ts.length ht.tc] 60) from XT_2.out)
    have lT : w.heap.size < v2.heap.size := (Array.getElem?_eq_some_iff.1 XT_2.out).1
    obtain ⟨cU0, cU1, cU2, cU3, cU4⟩ := five_cells (show v2.heap[w.heap.size + 1]? = some (.cells #[.int .u8 u.k, .int .i64 u.n, .string u.s, .slice hu.lo u.ls.length hu.lc, .slice hu.to u.ts.length hu.tc] 60) from XU_2.out)
    have lU : w.heap.size + 1 < v2.heap.size := (Array.getElem?_eq_some_iff.1 XU_2.out).1
    cases hmt : t.may
    · go_wp2_with fail
      refine (sub_works_any _).mono ?_
      rintro e v3 ⟨rfl, b3⟩
      clear cT0 cT1 cT2 cT3 cT4 cU0 cU1 cU2 cU3 cU4 lT lU
      have HB_3 := Lib.hid (Trm.go HB_2.out b3)
      have XT_3 := Lib.hid (Lvl.keep b3 XT_2.out)
      have XU_3 := Lib.hid (Lvl.keep b3 XU_2.out)
      clear b3
      clear HB_2 XT_2 XU_2
      go_wp2_with fail
      go_ret
      exact ⟨rfl, HB_3.out⟩
    · go_wp2_with fail
      refine (HMU.out _ HB_2.out).mono ?_
      rintro e v3 ⟨rfl, b3⟩
      clear cT0 cT1 cT2 cT3 cT4 cU0 cU1 cU2 cU3 cU4 lT lU
      have HB_3 := Lib.hid (Trm.go HB_2.out b3)
      have XT_3 := Lib.hid (Lvl.keep b3 XT_2.out)
      have XU_3 := Lib.hid (Lvl.keep b3 XU_2.out)
      clear b3
      clear HB_2 XT_2 XU_2
      obtain ⟨cT0, cT1, cT2, cT3, cT4⟩ := five_cells (show v3.heap[w.heap.size]? = some (.cells #[.int .u8 t.k, .int .i64 t.n, .string t.s, .slice ht.lo t.ls.length ht.lc, .slice ht.to t.ts.length ht.tc] 60) from XT_3.out)
      have lT : w.heap.size < v3.heap.size := (Array.getElem?_eq_some_iff.1 XT_3.out).1
      obtain ⟨cU0, cU1, cU2, cU3, cU4⟩ := five_cells (show v3.heap[w.heap.size + 1]? = some (.cells #[.int .u8 u.k, .int .i64 u.n, .string u.s, .slice hu.lo u.ls.length hu.lc, .slice hu.to u.ts.length hu.tc] 60) from XU_3.out)
      have lU : w.heap.size + 1 < v3.heap.size := (Array.getElem?_eq_some_iff.1 XU_3.out).1
      cases hmu : u.may
      · go_wp2_with fail
        refine (sub_works_any _).mono ?_
        rintro e v4 ⟨rfl, b4⟩
        clear cT0 cT1 cT2 cT3 cT4 cU0 cU1 cU2 cU3 cU4 lT lU
        have HB_4 := Lib.hid (Trm.go HB_3.out b4)
        have XT_4 := Lib.hid (Lvl.keep b4 XT_3.out)
        have XU_4 := Lib.hid (Lvl.keep b4 XU_3.out)
        clear b4
        clear HB_3 XT_3 XU_3
        go_wp2_with fail
        go_ret
        exact ⟨rfl, HB_4.out⟩
      · go_wp2_with fail
        refine (HFR.out _ hmt HB_3.out).mono ?_
        rintro e v4 ⟨rfl, b4⟩
        clear cT0 cT1 cT2 cT3 cT4 cU0 cU1 cU2 cU3 cU4 lT lU
        have HB_4 := Lib.hid (Trm.go HB_3.out b4)
        have XT_4 := Lib.hid (Lvl.keep b4 XT_3.out)
        have XU_4 := Lib.hid (Lvl.keep b4 XU_3.out)
        clear b4
        clear HB_3 XT_3 XU_3
        obtain ⟨cT0, cT1, cT2, cT3, cT4⟩ := five_cells (show v4.heap[w.heap.size]? = some (.cells #[.int .u8 t.k, .int .i64 t.n, .string t.s, .slice ht.lo t.ls.length ht.lc, .slice ht.to t.ts.length ht.tc] 60) from XT_4.out)
        have lT : w.heap.size < v4.heap.size := (Array.getElem?_eq_some_iff.1 XT_4.out).1
        obtain ⟨cU0, cU1, cU2, cU3, cU4⟩ := five_cells (show v4.heap[w.heap.size + 1]? = some (.cells #[.int .u8 u.k, .int .i64 u.n, .string u.s, .slice hu.lo u.ls.length hu.lc, .slice hu.to u.ts.length hu.tc] 60) from XU_4.out)
        have lU : w.heap.size + 1 < v4.heap.size := (Array.getElem?_eq_some_iff.1 XU_4.out).1
        by_cases hbig : 524288 < t.free
        · have d1 : decide (524288 < t.free) = true := by simpa using hbig
          clear hmt hmu
          go_wp2_with fail
          refine (sub_works_any _).mono ?_
          rintro e v5 ⟨rfl, b5⟩
          clear cT0 cT1 cT2 cT3 cT4 cU0 cU1 cU2 cU3 cU4 lT lU
          have HB_5 := Lib.hid (Trm.go HB_4.out b5)
          have XT_5 := Lib.hid (Lvl.keep b5 XT_4.out)
          have XU_5 := Lib.hid (Lvl.keep b5 XU_4.out)
          clear b5
          clear HB_4 XT_4 XU_4
          go_wp2_with fail
          go_ret
          exact ⟨rfl, HB_5.out⟩
        · have d1 : decide (524288 < t.free) = false := by simpa using hbig
          obtain ⟨o1, o2, o4, o5, o6, q1, q2, q3, q4, q5, q6, q7, q8, q9, q10⟩ := law_facts hmt hmu (by omega) hx0 hx1 hy0 hy1 hn0 hn1
          have hwxy : IntKind.i64.wrap (x + y) = x + y := IntWalk.i64_in _ (by omega)
          have HL1 := Lib.hid (fun (W : World) (hW : Below w.heap.size w W) => show Calls Try.prog 70 #[.agg #[.int .u8 t.k, .int .i64 t.n, .string t.s, .slice ht.lo t.ls.length ht.lc, .slice ht.to t.ts.length ht.tc], .int .i64 0, .int .i64 x] W (fun e w' => ∃ h', e = .returned (.tuple #[o1.val h', .int .i64 0]) ∧ o1.In w'.heap.size w' h' ∧ Below W.heap.size W w') from by
            have := Lift_any t ht 0 x W (carry HIN.out hW) (by omega)
            rw [q1] at this
            exact this)
          have HL2 := Lib.hid (fun (W : World) (h : Hd) (hi : o1.In W.heap.size W h) => show Calls Try.prog 70 #[.agg #[.int .u8 o1.k, .int .i64 o1.n, .string o1.s, .slice h.lo o1.ls.length h.lc, .slice h.to o1.ts.length h.tc], .int .i64 0, .int .i64 y] W (fun e w' => ∃ h', e = .returned (.tuple #[o2.val h', .int .i64 0]) ∧ o2.In w'.heap.size w' h' ∧ Below W.heap.size W w') from by
            have := Lift_any o1 h 0 y W hi (by omega)
            rw [q2] at this
            exact this)
          have HL3 := Lib.hid (fun (W : World) (hW : Below w.heap.size w W) => show Calls Try.prog 70 #[.agg #[.int .u8 t.k, .int .i64 t.n, .string t.s, .slice ht.lo t.ls.length ht.lc, .slice ht.to t.ts.length ht.tc], .int .i64 0, .int .i64 (x + y)] W (fun e w' => ∃ h', e = .returned (.tuple #[o2.val h', .int .i64 0]) ∧ o2.In w'.heap.size w' h' ∧ Below W.heap.size W w') from by
            have := Lift_any t ht 0 (x + y) W (carry HIN.out hW) (by omega)
            rw [q3] at this
            exact this)
          have HL4 := Lib.hid (fun (W : World) (hW : Below w.heap.size w W) => show Calls Try.prog 70 #[.agg #[.int .u8 t.k, .int .i64 t.n, .string t.s, .slice ht.lo t.ls.length ht.lc, .slice ht.to t.ts.length ht.tc], .int .i64 0, .int .i64 1] W (fun e w' => ∃ h', e = .returned (.tuple #[o4.val h', .int .i64 0]) ∧ o4.In w'.heap.size w' h' ∧ Below W.heap.size W w') from by
            have := Lift_any t ht 0 1 W (carry HIN.out hW) (by omega)
            rw [q4] at this
            exact this)
          have HI5 := Lib.hid (fun (W : World) (h : Hd) (g : Nat) (hW : Below w.heap.size w W) (hi : o4.In W.heap.size W h) (hg : W.heap[g]? = some (.cells (u.vals hu) 60)) => show Calls Try.prog 78 #[.agg #[.int .u8 o4.k, .int .i64 o4.n, .string o4.s, .slice h.lo o4.ls.length h.lc, .slice h.to o4.ts.length h.tc], .slice (some ⟨g, 0, none⟩) 1 1] W (fun e w' => ∃ h', e = .returned (.tuple #[t.val h', .int .i64 0]) ∧ t.In w'.heap.size w' h' ∧ Below W.heap.size W w') from by
            have := Inst_any o4 h [u] (some ⟨g, 0, none⟩) 1 W hi (row_one hg (carry HIN2.out hW)) (by simp)
            rw [q5] at this
            exact this)
          have HC6 := Lib.hid (fun (W : World) (hW : Below w.heap.size w W) => show Calls Try.prog 72 #[.agg #[.int .u8 t.k, .int .i64 t.n, .string t.s, .slice ht.lo t.ls.length ht.lc, .slice ht.to t.ts.length ht.tc], .int .i64 n] W (fun e w' => ∃ h', e = .returned (.tuple #[o5.val h', .int .i64 0]) ∧ o5.In w'.heap.size w' h' ∧ Below W.heap.size W w') from by
            have := Close_any t ht n W (carry HIN.out hW)
            rw [q6] at this
            exact this)
          have HI7 := Lib.hid (fun (W : World) (h hv : Hd) (g : Nat) (hi : o5.In W.heap.size W h) (hiv : (tV n).In W.heap.size W hv) (hg : W.heap[g]? = some (.cells ((tV n).vals hv) 60)) => show Calls Try.prog 78 #[.agg #[.int .u8 o5.k, .int .i64 o5.n, .string o5.s, .slice h.lo o5.ls.length h.lc, .slice h.to o5.ts.length h.tc], .slice (some ⟨g, 0, none⟩) 1 1] W (fun e w' => ∃ h', e = .returned (.tuple #[o6.val h', .int .i64 0]) ∧ o6.In w'.heap.size w' h' ∧ Below W.heap.size W w') from by
            have := Inst_any o5 h [tV n] (some ⟨g, 0, none⟩) 1 W hi (row_one hg hiv) (by simp)
            rw [q7] at this
            exact this)
          have HI8 := Lib.hid (fun (W : World) (g : Nat) (hz : t.free = 0) (hW : Below w.heap.size w W) (hg : W.heap[g]? = some (.cells (u.vals hu) 60)) => show Calls Try.prog 78 #[.agg #[.int .u8 t.k, .int .i64 t.n, .string t.s, .slice ht.lo t.ls.length ht.lc, .slice ht.to t.ts.length ht.tc], .slice (some ⟨g, 0, none⟩) 1 1] W (fun e w' => ∃ h', e = .returned (.tuple #[t.val h', .int .i64 0]) ∧ t.In w'.heap.size w' h' ∧ Below W.heap.size W w') from by
            have := Inst_any t ht [u] (some ⟨g, 0, none⟩) 1 W (carry HIN.out hW) (row_one hg (carry HIN2.out hW)) (by simp)
            rw [(q9 hz).2] at this
            exact this)
          have HS2 := Lib.hid (fun (W : World) (h h' : Hd) (hi : o2.In W.heap.size W h) (hi' : o2.In W.heap.size W h') => show Calls Try.prog 53 #[.agg #[.int .u8 o2.k, .int .i64 o2.n, .string o2.s, .slice h.lo o2.ls.length h.lc, .slice h.to o2.ts.length h.tc], .agg #[.int .u8 o2.k, .int .i64 o2.n, .string o2.s, .slice h'.lo o2.ls.length h'.lc, .slice h'.to o2.ts.length h'.tc]] W (fun e w' => e = .returned (.bool true) ∧ Below W.heap.size W w') from
            (show same o2 o2 = true from same_iff.2 rfl) ▸ RefSame_any o2 o2 h h' W hi hi')
          have HST := Lib.hid (fun (W : World) (h : Hd) (hW : Below w.heap.size w W) (hi : t.In W.heap.size W h) => show Calls Try.prog 53 #[.agg #[.int .u8 t.k, .int .i64 t.n, .string t.s, .slice h.lo t.ls.length h.lc, .slice h.to t.ts.length h.tc], .agg #[.int .u8 t.k, .int .i64 t.n, .string t.s, .slice ht.lo t.ls.length ht.lc, .slice ht.to t.ts.length ht.tc]] W (fun e w' => e = .returned (.bool true) ∧ Below W.heap.size W w') from
            (show same t t = true from same_iff.2 rfl) ▸ RefSame_any t t h ht W hi (carry HIN.out hW))
          have Q8 := Lib.hid q8
          have M6 := Lib.hid q10
          have Q9 := Lib.hid (fun hz => (q9 hz).1)
          have HMT := Lib.hid hmt
          clear q1 q2 q3 q4 q5 q6 q7 q8 q9 q10 HF HM HMU hmt hmu
          go_wp2_with fail
          refine (HL1.out _ HB_4.out).mono ?_
          rintro e v5 ⟨h5, rfl, i5, b5⟩
          clear cT0 cT1 cT2 cT3 cT4 cU0 cU1 cU2 cU3 cU4 lT lU
          have HB_5 := Lib.hid (Trm.go HB_4.out b5)
          have XT_5 := Lib.hid (Lvl.keep b5 XT_4.out)
          have XU_5 := Lib.hid (Lvl.keep b5 XU_4.out)
          have I1_5 := Lib.hid i5
          clear b5 i5
          clear HB_4 XT_4 XU_4
          dsimp only [Tm.val, Tm.vals]
          have e6 := below_one v5 (.cells (o1.vals h5) 60)
          have HB_6 := Lib.hid (Trm.go HB_5.out e6)
          have XT_6 := Lib.hid (Lvl.keep e6 XT_5.out)
          have XU_6 := Lib.hid (Lvl.keep e6 XU_5.out)
          have I1_6 := Lib.hid (carry I1_5.out e6)
          have X1_6 := Lib.hid (World.alloc_heap_new v5 (.cells (o1.vals h5) 60))
          clear e6
          clear HB_5 XT_5 XU_5 I1_5
          go_wp2_with fail
          refine (HL2.out _ h5 I1_6.out).mono ?_
          rintro e v7 ⟨h7, rfl, i7, b7⟩
          have HB_7 := Lib.hid (Trm.go HB_6.out b7)
          have XT_7 := Lib.hid (Lvl.keep b7 XT_6.out)
          have XU_7 := Lib.hid (Lvl.keep b7 XU_6.out)
          have X1_7 := Lib.hid (Lvl.keep b7 X1_6.out)
          have I1_7 := Lib.hid (carry I1_6.out b7)
          have I2_7 := Lib.hid i7
          clear b7 i7
          clear HB_6 XT_6 XU_6 X1_6 I1_6
          dsimp only [Tm.val, Tm.vals]
          have e8 := below_one v7 (.cells (o2.vals h7) 60)
          have HB_8 := Lib.hid (Trm.go HB_7.out e8)
          have XT_8 := Lib.hid (Lvl.keep e8 XT_7.out)
          have XU_8 := Lib.hid (Lvl.keep e8 XU_7.out)
          have X1_8 := Lib.hid (Lvl.keep e8 X1_7.out)
          have I1_8 := Lib.hid (carry I1_7.out e8)
          have I2_8 := Lib.hid (carry I2_7.out e8)
          have X2_8 := Lib.hid (World.alloc_heap_new v7 (.cells (o2.vals h7) 60))
          clear e8
          obtain ⟨cT0, cT1, cT2, cT3, cT4⟩ := five_cells (show v7.heap[w.heap.size]? = some (.cells #[.int .u8 t.k, .int .i64 t.n, .string t.s, .slice ht.lo t.ls.length ht.lc, .slice ht.to t.ts.length ht.tc] 60) from XT_7.out)
          have lT : w.heap.size < v7.heap.size := (Array.getElem?_eq_some_iff.1 XT_7.out).1
          clear HB_7 XT_7 XU_7 X1_7 I1_7 I2_7
          go_wp2_with fail
          refine (HL3.out _ HB_8.out).mono ?_
          rintro e v9 ⟨h9, rfl, i9, b9⟩
          clear cT0 cT1 cT2 cT3 cT4 lT
          have HB_9 := Lib.hid (Trm.go HB_8.out b9)
          have XT_9 := Lib.hid (Lvl.keep b9 XT_8.out)
          have XU_9 := Lib.hid (Lvl.keep b9 XU_8.out)
          have X1_9 := Lib.hid (Lvl.keep b9 X1_8.out)
          have X2_9 := Lib.hid (Lvl.keep b9 X2_8.out)
          have I1_9 := Lib.hid (carry I1_8.out b9)
          have I2_9 := Lib.hid (carry I2_8.out b9)
          have I3_9 := Lib.hid i9
          clear b9 i9
          clear HB_8 XT_8 XU_8 X1_8 X2_8 I1_8 I2_8
          dsimp only [Tm.val, Tm.vals]
          have e10 := below_one v9 (.cells (o2.vals h9) 60)
          have HB_10 := Lib.hid (Trm.go HB_9.out e10)
          have XT_10 := Lib.hid (Lvl.keep e10 XT_9.out)
          have XU_10 := Lib.hid (Lvl.keep e10 XU_9.out)
          have X1_10 := Lib.hid (Lvl.keep e10 X1_9.out)
          have X2_10 := Lib.hid (Lvl.keep e10 X2_9.out)
          have I1_10 := Lib.hid (carry I1_9.out e10)
          have I2_10 := Lib.hid (carry I2_9.out e10)
          have I3_10 := Lib.hid (carry I3_9.out e10)
          have X3_10 := Lib.hid (World.alloc_heap_new v9 (.cells (o2.vals h9) 60))
          clear e10
          obtain ⟨cT0, cT1, cT2, cT3, cT4⟩ := five_cells (show v9.heap[w.heap.size]? = some (.cells #[.int .u8 t.k, .int .i64 t.n, .string t.s, .slice ht.lo t.ls.length ht.lc, .slice ht.to t.ts.length ht.tc] 60) from XT_9.out)
          have lT : w.heap.size < v9.heap.size := (Array.getElem?_eq_some_iff.1 XT_9.out).1
          clear HB_9 XT_9 XU_9 X1_9 X2_9 I1_9 I2_9 I3_9
          go_wp2_with fail
          refine (HL4.out _ HB_10.out).mono ?_
          rintro e v11 ⟨h11, rfl, i11, b11⟩
          clear cT0 cT1 cT2 cT3 cT4 lT
          have HB_11 := Lib.hid (Trm.go HB_10.out b11)
          have XT_11 := Lib.hid (Lvl.keep b11 XT_10.out)
          have XU_11 := Lib.hid (Lvl.keep b11 XU_10.out)
          have X1_11 := Lib.hid (Lvl.keep b11 X1_10.out)
          have X2_11 := Lib.hid (Lvl.keep b11 X2_10.out)
          have X3_11 := Lib.hid (Lvl.keep b11 X3_10.out)
          have I1_11 := Lib.hid (carry I1_10.out b11)
          have I2_11 := Lib.hid (carry I2_10.out b11)
          have I3_11 := Lib.hid (carry I3_10.out b11)
          have I4_11 := Lib.hid i11
          clear b11 i11
          clear HB_10 XT_10 XU_10 X1_10 X2_10 X3_10 I1_10 I2_10 I3_10
          dsimp only [Tm.val, Tm.vals]
          have e12 := below_one v11 (.cells (o4.vals h11) 60)
          have HB_12 := Lib.hid (Trm.go HB_11.out e12)
          have XT_12 := Lib.hid (Lvl.keep e12 XT_11.out)
          have XU_12 := Lib.hid (Lvl.keep e12 XU_11.out)
          have X1_12 := Lib.hid (Lvl.keep e12 X1_11.out)
          have X2_12 := Lib.hid (Lvl.keep e12 X2_11.out)
          have X3_12 := Lib.hid (Lvl.keep e12 X3_11.out)
          have I1_12 := Lib.hid (carry I1_11.out e12)
          have I2_12 := Lib.hid (carry I2_11.out e12)
          have I3_12 := Lib.hid (carry I3_11.out e12)
          have I4_12 := Lib.hid (carry I4_11.out e12)
          have X4_12 := Lib.hid (World.alloc_heap_new v11 (.cells (o4.vals h11) 60))
          clear e12
          obtain ⟨cU0, cU1, cU2, cU3, cU4⟩ := five_cells (show v11.heap[w.heap.size + 1]? = some (.cells #[.int .u8 u.k, .int .i64 u.n, .string u.s, .slice hu.lo u.ls.length hu.lc, .slice hu.to u.ts.length hu.tc] 60) from XU_11.out)
          have lU : w.heap.size + 1 < v11.heap.size := (Array.getElem?_eq_some_iff.1 XU_11.out).1
          clear HB_11 XT_11 XU_11 X1_11 X2_11 X3_11 I1_11 I2_11 I3_11 I4_11
          have es := below_one (v11.alloc (.cells (o4.vals h11) 60)) (.cells (u.vals hu) 60)
          have HB_13 := Lib.hid (Trm.go HB_12.out es)
          have XT_13 := Lib.hid (Lvl.keep es XT_12.out)
          have XU_13 := Lib.hid (Lvl.keep es XU_12.out)
          have X1_13 := Lib.hid (Lvl.keep es X1_12.out)
          have X2_13 := Lib.hid (Lvl.keep es X2_12.out)
          have X3_13 := Lib.hid (Lvl.keep es X3_12.out)
          have X4_13 := Lib.hid (Lvl.keep es X4_12.out)
          have I1_13 := Lib.hid (carry I1_12.out es)
          have I2_13 := Lib.hid (carry I2_12.out es)
          have I3_13 := Lib.hid (carry I3_12.out es)
          have I4_13 := Lib.hid (carry I4_12.out es)
          have XG := Lib.hid (new2 v11 (.cells (o4.vals h11) 60) (.cells (u.vals hu) 60))
          clear es
          clear HB_12 XT_12 XU_12 X1_12 X2_12 X3_12 X4_12 I1_12 I2_12 I3_12 I4_12
          go_wp2_with fail
          refine (HI5.out _ h11 (v11.heap.size + 1) HB_13.out I4_13.out XG.out).mono ?_
          rintro e v14 ⟨h14, rfl, i14, b14⟩
          clear cU0 cU1 cU2 cU3 cU4 lU
          have HB_14 := Lib.hid (Trm.go HB_13.out b14)
          have XT_14 := Lib.hid (Lvl.keep b14 XT_13.out)
          have XU_14 := Lib.hid (Lvl.keep b14 XU_13.out)
          have X1_14 := Lib.hid (Lvl.keep b14 X1_13.out)
          have X2_14 := Lib.hid (Lvl.keep b14 X2_13.out)
          have X3_14 := Lib.hid (Lvl.keep b14 X3_13.out)
          have X4_14 := Lib.hid (Lvl.keep b14 X4_13.out)
          have I1_14 := Lib.hid (carry I1_13.out b14)
          have I2_14 := Lib.hid (carry I2_13.out b14)
          have I3_14 := Lib.hid (carry I3_13.out b14)
          have I4_14 := Lib.hid (carry I4_13.out b14)
          have I5_14 := Lib.hid i14
          clear b14 i14
          clear HB_13 XT_13 XU_13 X1_13 X2_13 X3_13 X4_13 I1_13 I2_13 I3_13 I4_13
          dsimp only [Tm.val, Tm.vals]
          clear XG
          have e15 := below_one v14 (.cells (t.vals h14) 60)
          have HB_15 := Lib.hid (Trm.go HB_14.out e15)
          have XT_15 := Lib.hid (Lvl.keep e15 XT_14.out)
          have XU_15 := Lib.hid (Lvl.keep e15 XU_14.out)
          have X1_15 := Lib.hid (Lvl.keep e15 X1_14.out)
          have X2_15 := Lib.hid (Lvl.keep e15 X2_14.out)
          have X3_15 := Lib.hid (Lvl.keep e15 X3_14.out)
          have I1_15 := Lib.hid (carry I1_14.out e15)
          have I2_15 := Lib.hid (carry I2_14.out e15)
          have I3_15 := Lib.hid (carry I3_14.out e15)
          have I5_15 := Lib.hid (carry I5_14.out e15)
          have X5_15 := Lib.hid (World.alloc_heap_new v14 (.cells (t.vals h14) 60))
          clear e15
          obtain ⟨c20, c21, c22, c23, c24⟩ := five_cells (show v14.heap[v7.heap.size]? = some (.cells #[.int .u8 o2.k, .int .i64 o2.n, .string o2.s, .slice h7.lo o2.ls.length h7.lc, .slice h7.to o2.ts.length h7.tc] 60) from X2_14.out)
          have l2 : v7.heap.size < v14.heap.size := (Array.getElem?_eq_some_iff.1 X2_14.out).1
          obtain ⟨c30, c31, c32, c33, c34⟩ := five_cells (show v14.heap[v9.heap.size]? = some (.cells #[.int .u8 o2.k, .int .i64 o2.n, .string o2.s, .slice h9.lo o2.ls.length h9.lc, .slice h9.to o2.ts.length h9.tc] 60) from X3_14.out)
          have l3 : v9.heap.size < v14.heap.size := (Array.getElem?_eq_some_iff.1 X3_14.out).1
          obtain ⟨cT0, cT1, cT2, cT3, cT4⟩ := five_cells (show v14.heap[w.heap.size]? = some (.cells #[.int .u8 t.k, .int .i64 t.n, .string t.s, .slice ht.lo t.ls.length ht.lc, .slice ht.to t.ts.length ht.tc] 60) from XT_14.out)
          have lT : w.heap.size < v14.heap.size := (Array.getElem?_eq_some_iff.1 XT_14.out).1
          clear HB_14 XT_14 XU_14 X1_14 X2_14 X3_14 I1_14 I2_14 I3_14 I5_14
          go_wp2_with fail
          refine (HS2.out _ h7 h9 I2_15.out I3_15.out).mono ?_
          rintro e v16 ⟨rfl, b16⟩
          clear c20 c21 c22 c23 c24 c30 c31 c32 c33 c34 cT0 cT1 cT2 cT3 cT4 l2 l3 lT
          have HB_16 := Lib.hid (Trm.go HB_15.out b16)
          have XT_16 := Lib.hid (Lvl.keep b16 XT_15.out)
          have XU_16 := Lib.hid (Lvl.keep b16 XU_15.out)
          have X1_16 := Lib.hid (Lvl.keep b16 X1_15.out)
          have X2_16 := Lib.hid (Lvl.keep b16 X2_15.out)
          have X3_16 := Lib.hid (Lvl.keep b16 X3_15.out)
          have X5_16 := Lib.hid (Lvl.keep b16 X5_15.out)
          have I1_16 := Lib.hid (carry I1_15.out b16)
          have I2_16 := Lib.hid (carry I2_15.out b16)
          have I3_16 := Lib.hid (carry I3_15.out b16)
          have I5_16 := Lib.hid (carry I5_15.out b16)
          clear b16
          clear HB_15 XT_15 XU_15 X1_15 X2_15 X3_15 X5_15 I1_15 I2_15 I3_15 I5_15
          obtain ⟨c50, c51, c52, c53, c54⟩ := five_cells (show v16.heap[v14.heap.size]? = some (.cells #[.int .u8 t.k, .int .i64 t.n, .string t.s, .slice h14.lo t.ls.length h14.lc, .slice h14.to t.ts.length h14.tc] 60) from X5_16.out)
          have l5 : v14.heap.size < v16.heap.size := (Array.getElem?_eq_some_iff.1 X5_16.out).1
          obtain ⟨cT0, cT1, cT2, cT3, cT4⟩ := five_cells (show v16.heap[w.heap.size]? = some (.cells #[.int .u8 t.k, .int .i64 t.n, .string t.s, .slice ht.lo t.ls.length ht.lc, .slice ht.to t.ts.length ht.tc] 60) from XT_16.out)
          have lT : w.heap.size < v16.heap.size := (Array.getElem?_eq_some_iff.1 XT_16.out).1
          go_wp2_with fail
          refine (HST.out _ h14 HB_16.out I5_16.out).mono ?_
          rintro e v17 ⟨rfl, b17⟩
          clear c50 c51 c52 c53 c54 cT0 cT1 cT2 cT3 cT4 l5 lT
          have HB_17 := Lib.hid (Trm.go HB_16.out b17)
          have XT_17 := Lib.hid (Lvl.keep b17 XT_16.out)
          have XU_17 := Lib.hid (Lvl.keep b17 XU_16.out)
          have X1_17 := Lib.hid (Lvl.keep b17 X1_16.out)
          have X2_17 := Lib.hid (Lvl.keep b17 X2_16.out)
          have X3_17 := Lib.hid (Lvl.keep b17 X3_16.out)
          have X5_17 := Lib.hid (Lvl.keep b17 X5_16.out)
          have I1_17 := Lib.hid (carry I1_16.out b17)
          have I2_17 := Lib.hid (carry I2_16.out b17)
          have I3_17 := Lib.hid (carry I3_16.out b17)
          have I5_17 := Lib.hid (carry I5_16.out b17)
          clear b17
          clear HB_16 XT_16 XU_16 X1_16 X2_16 X3_16 X5_16 I1_16 I2_16 I3_16 I5_16
          obtain ⟨cT0, cT1, cT2, cT3, cT4⟩ := five_cells (show v17.heap[w.heap.size]? = some (.cells #[.int .u8 t.k, .int .i64 t.n, .string t.s, .slice ht.lo t.ls.length ht.lc, .slice ht.to t.ts.length ht.tc] 60) from XT_17.out)
          have lT : w.heap.size < v17.heap.size := (Array.getElem?_eq_some_iff.1 XT_17.out).1
          go_wp2_with fail
          refine (HC6.out _ HB_17.out).mono ?_
          rintro e v18 ⟨h18, rfl, i18, b18⟩
          clear cT0 cT1 cT2 cT3 cT4 lT
          have HB_18 := Lib.hid (Trm.go HB_17.out b18)
          have XT_18 := Lib.hid (Lvl.keep b18 XT_17.out)
          have XU_18 := Lib.hid (Lvl.keep b18 XU_17.out)
          have X1_18 := Lib.hid (Lvl.keep b18 X1_17.out)
          have I1_18 := Lib.hid (carry I1_17.out b18)
          have I6_18 := Lib.hid i18
          clear b18 i18
          clear HB_17 XT_17 XU_17 X1_17 I1_17
          dsimp only [Tm.val, Tm.vals]
          have e19 := below_one v18 (.cells (o5.vals h18) 60)
          have HB_19 := Lib.hid (Trm.go HB_18.out e19)
          have XT_19 := Lib.hid (Lvl.keep e19 XT_18.out)
          have XU_19 := Lib.hid (Lvl.keep e19 XU_18.out)
          have X1_19 := Lib.hid (Lvl.keep e19 X1_18.out)
          have I1_19 := Lib.hid (carry I1_18.out e19)
          have I6_19 := Lib.hid (carry I6_18.out e19)
          have X6_19 := Lib.hid (World.alloc_heap_new v18 (.cells (o5.vals h18) 60))
          clear e19
          clear HB_18 XT_18 XU_18 X1_18 I1_18 I6_18
          go_wp2_with fail
          obtain ⟨wq, hwc⟩ : ∃ wq, wq = v18.alloc (.cells #[.int .u8 o5.k, .int .i64 o5.n, .string o5.s, .slice h18.lo o5.ls.length h18.lc, .slice h18.to o5.ts.length h18.tc] 60) := ⟨_, rfl⟩
          rw [← hwc]
          have hwc2 : v18.alloc (.cells (o5.vals h18) 60) = wq := hwc.symm
          rw [hwc2] at HB_19 XT_19 XU_19 X1_19 X6_19 I1_19 I6_19
          clear hwc hwc2
          obtain ⟨c60, c61, c62, c63, c64⟩ := five_cells (show wq.heap[v18.heap.size]? = some (.cells #[.int .u8 o5.k, .int .i64 o5.n, .string o5.s, .slice h18.lo o5.ls.length h18.lc, .slice h18.to o5.ts.length h18.tc] 60) from X6_19.out)
          have l6 : v18.heap.size < wq.heap.size := (Array.getElem?_eq_some_iff.1 X6_19.out).1
          have HVa := Lib.hid (V_any n wq.drew (by omega) (by omega))
          have HVc := Lib.hid (V_any n ((wq.alloc (.cells #[.int .u8 0, .int .i64 0, .string ⟨#[]⟩, .slice none 0 0, .slice none 0 0] 60)).drew) (by omega) (by omega))
          have HG1 := Lib.hid (fun (wv : World) (hv : Hd) (hbv : Below wq.heap.size wq wv) (iv : (tV n).In wv.heap.size wv hv) => show Calls Try.prog 78 #[.agg #[.int .u8 o5.k, .int .i64 o5.n, .string o5.s, .slice h18.lo o5.ls.length h18.lc, .slice h18.to o5.ts.length h18.tc], .slice (some ⟨wv.heap.size, 0, none⟩) 1 1] (wv.alloc (.cells #[.int .u8 (tV n).k, .int .i64 (tV n).n, .string (tV n).s, .slice hv.lo (tV n).ls.length hv.lc, .slice hv.to (tV n).ts.length hv.tc] 60)) (fun e w' => ∃ h', e = .returned (.tuple #[o6.val h', .int .i64 0]) ∧ o6.In w'.heap.size w' h' ∧ Below (wv.alloc (.cells #[.int .u8 (tV n).k, .int .i64 (tV n).n, .string (tV n).s, .slice hv.lo (tV n).ls.length hv.lc, .slice hv.to (tV n).ts.length hv.tc] 60)).heap.size (wv.alloc (.cells #[.int .u8 (tV n).k, .int .i64 (tV n).n, .string (tV n).s, .slice hv.lo (tV n).ls.length hv.lc, .slice hv.to (tV n).ts.length hv.tc] 60)) w') from HI7.out (wv.alloc (.cells #[.int .u8 (tV n).k, .int .i64 (tV n).n, .string (tV n).s, .slice hv.lo (tV n).ls.length hv.lc, .slice hv.to (tV n).ts.length hv.tc] 60)) h18 hv (wv.heap.size) (carry I6_19.out (Trm.go hbv (below_one wv _))) (carry iv (below_one wv _)) (World.alloc_heap_new wv _))
          have HG2 := Lib.hid (fun (wv : World) (hv : Hd) (hbv : Below wq.heap.size wq wv) (iv : (tV n).In wv.heap.size wv hv) => show Calls Try.prog 78 #[.agg #[.int .u8 o5.k, .int .i64 o5.n, .string o5.s, .slice h18.lo o5.ls.length h18.lc, .slice h18.to o5.ts.length h18.tc], .slice (some ⟨wv.heap.size + 1, 0, none⟩) 1 1] ((wv.alloc (.cells #[.int .u8 0, .int .i64 0, .string ⟨#[]⟩, .slice none 0 0, .slice none 0 0] 60)).alloc (.cells #[.int .u8 (tV n).k, .int .i64 (tV n).n, .string (tV n).s, .slice hv.lo (tV n).ls.length hv.lc, .slice hv.to (tV n).ts.length hv.tc] 60)) (fun e w' => ∃ h', e = .returned (.tuple #[o6.val h', .int .i64 0]) ∧ o6.In w'.heap.size w' h' ∧ Below ((wv.alloc (.cells #[.int .u8 0, .int .i64 0, .string ⟨#[]⟩, .slice none 0 0, .slice none 0 0] 60)).alloc (.cells #[.int .u8 (tV n).k, .int .i64 (tV n).n, .string (tV n).s, .slice hv.lo (tV n).ls.length hv.lc, .slice hv.to (tV n).ts.length hv.tc] 60)).heap.size ((wv.alloc (.cells #[.int .u8 0, .int .i64 0, .string ⟨#[]⟩, .slice none 0 0, .slice none 0 0] 60)).alloc (.cells #[.int .u8 (tV n).k, .int .i64 (tV n).n, .string (tV n).s, .slice hv.lo (tV n).ls.length hv.lc, .slice hv.to (tV n).ts.length hv.tc] 60)) w') from HI7.out ((wv.alloc (.cells #[.int .u8 0, .int .i64 0, .string ⟨#[]⟩, .slice none 0 0, .slice none 0 0] 60)).alloc (.cells #[.int .u8 (tV n).k, .int .i64 (tV n).n, .string (tV n).s, .slice hv.lo (tV n).ls.length hv.lc, .slice hv.to (tV n).ts.length hv.tc] 60)) h18 hv (wv.heap.size + 1) (carry I6_19.out (Trm.go hbv (below_two wv _ _))) (carry iv (below_two wv _ _)) (new2 wv _ _))
          have HG3 := Lib.hid (fun (wv : World) (hv : Hd) (hbv : Below wq.heap.size wq wv) (iv : (tV n).In wv.heap.size wv hv) => show Calls Try.prog 78 #[.agg #[.int .u8 o5.k, .int .i64 o5.n, .string o5.s, .slice h18.lo o5.ls.length h18.lc, .slice h18.to o5.ts.length h18.tc], .slice (some ⟨wv.heap.size, 0, none⟩) 1 1] ((wv.alloc (.cells #[.int .u8 (tV n).k, .int .i64 (tV n).n, .string (tV n).s, .slice hv.lo (tV n).ls.length hv.lc, .slice hv.to (tV n).ts.length hv.tc] 60)).alloc (.cells #[.int .u8 0, .int .i64 0, .string ⟨#[]⟩, .slice none 0 0, .slice none 0 0] 60)) (fun e w' => ∃ h', e = .returned (.tuple #[o6.val h', .int .i64 0]) ∧ o6.In w'.heap.size w' h' ∧ Below ((wv.alloc (.cells #[.int .u8 (tV n).k, .int .i64 (tV n).n, .string (tV n).s, .slice hv.lo (tV n).ls.length hv.lc, .slice hv.to (tV n).ts.length hv.tc] 60)).alloc (.cells #[.int .u8 0, .int .i64 0, .string ⟨#[]⟩, .slice none 0 0, .slice none 0 0] 60)).heap.size ((wv.alloc (.cells #[.int .u8 (tV n).k, .int .i64 (tV n).n, .string (tV n).s, .slice hv.lo (tV n).ls.length hv.lc, .slice hv.to (tV n).ts.length hv.tc] 60)).alloc (.cells #[.int .u8 0, .int .i64 0, .string ⟨#[]⟩, .slice none 0 0, .slice none 0 0] 60)) w') from HI7.out ((wv.alloc (.cells #[.int .u8 (tV n).k, .int .i64 (tV n).n, .string (tV n).s, .slice hv.lo (tV n).ls.length hv.lc, .slice hv.to (tV n).ts.length hv.tc] 60)).alloc (.cells #[.int .u8 0, .int .i64 0, .string ⟨#[]⟩, .slice none 0 0, .slice none 0 0] 60)) h18 hv (wv.heap.size) (carry I6_19.out (Trm.go hbv (below_two wv _ _))) (carry iv (below_two wv _ _)) (new1of2 wv _ _))
          go_cut [26, 27] (fun s26 s27 wx => CutA wq o6 s26 s27 wx)
          case first =>
            clear HL1 HL2 HL3 HL4 HI5 HC6 HI7 HI8 HS2 HST Q8 Q9 HFR HIN HIN2 HMT XT_19 XU_19 X1_19 I1_19 I6_19 HB_19 hwa hwb hwk hx hy hn hwxy
            go_region_with (first
              | (go_at_call 67; (with_reducible refine HVa.out.mono ?_); rintro e wv ⟨hv, rfl, iv, bv⟩
                 have hbv : Below wq.heap.size wq wv := Lvl.undrew bv
                 have HBV := Lib.hid hbv
                 have hx6 := Lvl.keep hbv X6_19.out
                 obtain ⟨c60, c61, c62, c63, c64⟩ := five_cells (show wv.heap[v18.heap.size]? = some (.cells #[.int .u8 o5.k, .int .i64 o5.n, .string o5.s, .slice h18.lo o5.ls.length h18.lc, .slice h18.to o5.ts.length h18.tc] 60) from hx6)
                 have l6v : v18.heap.size < wv.heap.size := (Array.getElem?_eq_some_iff.1 hx6).1
                 have HC1 := Lib.hid (HG1.out wv hv hbv iv)
                 have HC2 := Lib.hid (HG2.out wv hv hbv iv)
                 have HC3 := Lib.hid (HG3.out wv hv hbv iv)
                 clear iv bv hbv hx6
                 dsimp only [Tm.val, Tm.vals])
              | (go_at_call 67; (with_reducible refine HVc.out.mono ?_); rintro e wv ⟨hv, rfl, iv, bv⟩
                 have hbv : Below wq.heap.size wq wv := Below.trans (below_one wq _).drew (bv.mono (by simp [World.drew]))
                 have HBV := Lib.hid hbv
                 have hx6 := Lvl.keep hbv X6_19.out
                 obtain ⟨c60, c61, c62, c63, c64⟩ := five_cells (show wv.heap[v18.heap.size]? = some (.cells #[.int .u8 o5.k, .int .i64 o5.n, .string o5.s, .slice h18.lo o5.ls.length h18.lc, .slice h18.to o5.ts.length h18.tc] 60) from hx6)
                 have l6v : v18.heap.size < wv.heap.size := (Array.getElem?_eq_some_iff.1 hx6).1
                 have HXV := Lib.hid (show wv.heap[wq.heap.size]? = some (.cells #[.int .u8 0, .int .i64 0, .string ⟨#[]⟩, .slice none 0 0, .slice none 0 0] 60) from Lvl.keep bv (show ((wq.alloc (.cells #[.int .u8 0, .int .i64 0, .string ⟨#[]⟩, .slice none 0 0, .slice none 0 0] 60)).drew).heap[wq.heap.size]? = _ from World.alloc_heap_new wq _))
                 have HC1 := Lib.hid (HG1.out wv hv hbv iv)
                 clear iv bv hbv hx6
                 dsimp only [Tm.val, Tm.vals])
              | (go_at_call 78; have _q := HXV.out; (with_reducible refine HC1.out.mono ?_); rintro e wi ⟨h7, rfl, i7, b7⟩
                 have hbi : Below wq.heap.size wq wi := Trm.go HBV.out (Trm.go (below_one wv _) b7)
                 have HBI := Lib.hid hbi
                 have HII := Lib.hid i7
                 have hx := Lvl.keep (Trm.go (below_one wv _) b7) HXV.out
                 have HXa := Lib.hid hx
                 obtain ⟨p0, p1, p2, p3, p4⟩ := five_cells hx
                 obtain ⟨f0, f1, f2, f3, f4⟩ := five_free hx
                 have lx := (Array.getElem?_eq_some_iff.1 hx).1
                 clear hx
                 clear i7 b7 hbi
                 dsimp only [Tm.val, Tm.vals])
              | (go_at_call 78; have _q := HC2.out; (with_reducible refine HC2.out.mono ?_); rintro e wi ⟨h7, rfl, i7, b7⟩
                 have hbi : Below wq.heap.size wq wi := Trm.go HBV.out (Trm.go (below_two wv _ _) b7)
                 have HBI := Lib.hid hbi
                 have HII := Lib.hid i7
                 have hx := (show wi.heap[wv.heap.size]? = some (.cells #[.int .u8 0, .int .i64 0, .string ⟨#[]⟩, .slice none 0 0, .slice none 0 0] 60) from Lvl.keep b7 (new1of2 wv _ _))
                 have HXb := Lib.hid hx
                 obtain ⟨p0, p1, p2, p3, p4⟩ := five_cells hx
                 obtain ⟨f0, f1, f2, f3, f4⟩ := five_free hx
                 have lx := (Array.getElem?_eq_some_iff.1 hx).1
                 clear hx
                 clear i7 b7 hbi
                 dsimp only [Tm.val, Tm.vals])
              | (go_at_call 78; have _q := HC3.out; (with_reducible refine HC3.out.mono ?_); rintro e wi ⟨h7, rfl, i7, b7⟩
                 have hbi : Below wq.heap.size wq wi := Trm.go HBV.out (Trm.go (below_two wv _ _) b7)
                 have HBI := Lib.hid hbi
                 have HII := Lib.hid i7
                 have hx := (show wi.heap[wv.heap.size + 1]? = some (.cells #[.int .u8 0, .int .i64 0, .string ⟨#[]⟩, .slice none 0 0, .slice none 0 0] 60) from Lvl.keep b7 (new2 wv _ _))
                 have HXc := Lib.hid hx
                 obtain ⟨p0, p1, p2, p3, p4⟩ := five_cells hx
                 obtain ⟨f0, f1, f2, f3, f4⟩ := five_free hx
                 have lx := (Array.getElem?_eq_some_iff.1 hx).1
                 clear hx
                 clear i7 b7 hbi
                 dsimp only [Tm.val, Tm.vals])
              | (go_at_call 78; have _q := HC2.out; (with_reducible refine HC1.out.mono ?_); rintro e wi ⟨h7, rfl, i7, b7⟩
                 have hbi : Below wq.heap.size wq wi := Trm.go HBV.out (Trm.go (below_one wv _) b7)
                 have HBI := Lib.hid hbi
                 have HII := Lib.hid i7
                 have HXd := Lib.hid i7
                 clear i7 b7 hbi
                 dsimp only [Tm.val, Tm.vals]))
            all_goals
              go_wp2_with fail
              go_meet
              first
               | (have _q := HXa.out; exact ⟨wq.heap.size, h7, rfl, rfl, putT_self HXa.out _ _ _ _ _, Tm.In.mono (putT_ran wi (wq.heap.size) (.int .u8 o6.k) (.int .i64 o6.n) (.string o6.s) (.slice h7.lo o6.ls.length h7.lc) (.slice h7.to o6.ts.length h7.tc)).size _ _ (zero_firm HXa.out (Nat.le_refl _) (putT_ran wi (wq.heap.size) (.int .u8 o6.k) (.int .i64 o6.n) (.string o6.s) (.slice h7.lo o6.ls.length h7.lc) (.slice h7.to o6.ts.length h7.tc)) o6 h7 1 (OkMay.start M6.out) HII.out), putT_below HBI.out (by have := HBV.out.size; omega) _ _ _ _ _⟩)
               | (have _q := HXb.out; exact ⟨wv.heap.size, h7, rfl, rfl, putT_self HXb.out _ _ _ _ _, Tm.In.mono (putT_ran wi (wv.heap.size) (.int .u8 o6.k) (.int .i64 o6.n) (.string o6.s) (.slice h7.lo o6.ls.length h7.lc) (.slice h7.to o6.ts.length h7.tc)).size _ _ (zero_firm HXb.out (Nat.le_refl _) (putT_ran wi (wv.heap.size) (.int .u8 o6.k) (.int .i64 o6.n) (.string o6.s) (.slice h7.lo o6.ls.length h7.lc) (.slice h7.to o6.ts.length h7.tc)) o6 h7 1 (OkMay.start M6.out) HII.out), putT_below HBI.out (by have := HBV.out.size; omega) _ _ _ _ _⟩)
               | (have _q := HXc.out; exact ⟨wv.heap.size + 1, h7, rfl, rfl, putT_self HXc.out _ _ _ _ _, Tm.In.mono (putT_ran wi (wv.heap.size + 1) (.int .u8 o6.k) (.int .i64 o6.n) (.string o6.s) (.slice h7.lo o6.ls.length h7.lc) (.slice h7.to o6.ts.length h7.tc)).size _ _ (zero_firm HXc.out (Nat.le_refl _) (putT_ran wi (wv.heap.size + 1) (.int .u8 o6.k) (.int .i64 o6.n) (.string o6.s) (.slice h7.lo o6.ls.length h7.lc) (.slice h7.to o6.ts.length h7.tc)) o6 h7 1 (OkMay.start M6.out) HII.out), putT_below HBI.out (by have := HBV.out.size; omega) _ _ _ _ _⟩)
               | (have _q := HXd.out; exact ⟨wi.heap.size, h7, rfl, rfl, World.alloc_heap_new wi (o6.box h7), carry HII.out (below_one _ _), Trm.go HBI.out (below_one _ _)⟩)
          case rest =>
            obtain ⟨X, h7, rfl, rfl, hXA, iA, hbc⟩ := hcut
            clear c60 c61 c62 c63 c64 l6
            have HB_20 := Lib.hid (Trm.go HB_19.out hbc)
            have XT_20 := Lib.hid (Lvl.keep hbc XT_19.out)
            have XU_20 := Lib.hid (Lvl.keep hbc XU_19.out)
            have X1_20 := Lib.hid (Lvl.keep hbc X1_19.out)
            have I1_20 := Lib.hid (carry I1_19.out hbc)
            have XA_20 := Lib.hid hXA
            have IA_20 := Lib.hid iA
            clear hXA iA hbc
            clear HB_19 XT_19 XU_19 X1_19 I1_19
            have hwn : IntKind.i64.wrap (n + 1) = n + 1 := IntWalk.i64_in _ (by omega)
            obtain ⟨cT0, cT1, cT2, cT3, cT4⟩ := five_cells (show wc.heap[w.heap.size]? = some (.cells #[.int .u8 t.k, .int .i64 t.n, .string t.s, .slice ht.lo t.ls.length ht.lc, .slice ht.to t.ts.length ht.tc] 60) from XT_20.out)
            have lT : w.heap.size < wc.heap.size := (Array.getElem?_eq_some_iff.1 XT_20.out).1
            go_wp2_with fail
            refine (HFR.out _ HMT.out HB_20.out).mono ?_
            rintro e v21 ⟨rfl, b21⟩
            clear cT0 cT1 cT2 cT3 cT4 lT
            have HB_21 := Lib.hid (Trm.go HB_20.out b21)
            have XT_21 := Lib.hid (Lvl.keep b21 XT_20.out)
            have XU_21 := Lib.hid (Lvl.keep b21 XU_20.out)
            have X1_21 := Lib.hid (Lvl.keep b21 X1_20.out)
            have XA_21 := Lib.hid (Lvl.keep b21 XA_20.out)
            have I1_21 := Lib.hid (carry I1_20.out b21)
            have IA_21 := Lib.hid (carry IA_20.out b21)
            clear b21
            clear HB_20 XT_20 XU_20 X1_20 XA_20 I1_20 IA_20
            by_cases hle : t.free ≤ n + 1
            · have d2 : decide (t.free ≤ n + 1) = true := by simpa using hle
              have ho := (Q8.out hle).symm
              subst ho
              skip
              obtain ⟨cA0, cA1, cA2, cA3, cA4⟩ := five_cells (show v21.heap[X]? = some (.cells #[.int .u8 t.k, .int .i64 t.n, .string t.s, .slice h7.lo t.ls.length h7.lc, .slice h7.to t.ts.length h7.tc] 60) from XA_21.out)
              have lA : X < v21.heap.size := (Array.getElem?_eq_some_iff.1 XA_21.out).1
              obtain ⟨cT0, cT1, cT2, cT3, cT4⟩ := five_cells (show v21.heap[w.heap.size]? = some (.cells #[.int .u8 t.k, .int .i64 t.n, .string t.s, .slice ht.lo t.ls.length ht.lc, .slice ht.to t.ts.length ht.tc] 60) from XT_21.out)
              have lT : w.heap.size < v21.heap.size := (Array.getElem?_eq_some_iff.1 XT_21.out).1
              go_wp2_with fail
              refine (HST.out _ h7 HB_21.out IA_21.out).mono ?_
              rintro e v22 ⟨rfl, b22⟩
              clear cA0 cA1 cA2 cA3 cA4 cT0 cT1 cT2 cT3 cT4 lA lT
              have HB_22 := Lib.hid (Trm.go HB_21.out b22)
              have XT_22 := Lib.hid (Lvl.keep b22 XT_21.out)
              have XU_22 := Lib.hid (Lvl.keep b22 XU_21.out)
              have X1_22 := Lib.hid (Lvl.keep b22 X1_21.out)
              have XA_22 := Lib.hid (Lvl.keep b22 XA_21.out)
              have I1_22 := Lib.hid (carry I1_21.out b22)
              have IA_22 := Lib.hid (carry IA_21.out b22)
              clear b22
              clear HB_21 XT_21 XU_21 X1_21 XA_21 I1_21 IA_21
              obtain ⟨cT0, cT1, cT2, cT3, cT4⟩ := five_cells (show v22.heap[w.heap.size]? = some (.cells #[.int .u8 t.k, .int .i64 t.n, .string t.s, .slice ht.lo t.ls.length ht.lc, .slice ht.to t.ts.length ht.tc] 60) from XT_22.out)
              have lT : w.heap.size < v22.heap.size := (Array.getElem?_eq_some_iff.1 XT_22.out).1
              go_wp2_with fail
              refine (HFR.out _ HMT.out HB_22.out).mono ?_
              rintro e v23 ⟨rfl, b23⟩
              clear cT0 cT1 cT2 cT3 cT4 lT
              have HB_23 := Lib.hid (Trm.go HB_22.out b23)
              have XT_23 := Lib.hid (Lvl.keep b23 XT_22.out)
              have XU_23 := Lib.hid (Lvl.keep b23 XU_22.out)
              have X1_23 := Lib.hid (Lvl.keep b23 X1_22.out)
              have I1_23 := Lib.hid (carry I1_22.out b23)
              clear b23
              clear HB_22 XT_22 XU_22 X1_22 I1_22
              clear d1 d2 hle hbig hwn
              by_cases hz : t.free = 0
              · have d3 : (t.free == 0) = true := by simpa using hz
                have ho1 := (Q9.out hz).symm
                subst ho1
                have HZ := Lib.hid hz
                clear hz
                obtain ⟨cT0, cT1, cT2, cT3, cT4⟩ := five_cells (show v23.heap[w.heap.size]? = some (.cells #[.int .u8 t.k, .int .i64 t.n, .string t.s, .slice ht.lo t.ls.length ht.lc, .slice ht.to t.ts.length ht.tc] 60) from XT_23.out)
                have lT : w.heap.size < v23.heap.size := (Array.getElem?_eq_some_iff.1 XT_23.out).1
                obtain ⟨cU0, cU1, cU2, cU3, cU4⟩ := five_cells (show v23.heap[w.heap.size + 1]? = some (.cells #[.int .u8 u.k, .int .i64 u.n, .string u.s, .slice hu.lo u.ls.length hu.lc, .slice hu.to u.ts.length hu.tc] 60) from XU_23.out)
                have lU : w.heap.size + 1 < v23.heap.size := (Array.getElem?_eq_some_iff.1 XU_23.out).1
                go_upto_region 20 with fail
                clear d3
                have es := below_one v23 (.cells (u.vals hu) 60)
                have HB_24 := Lib.hid (Trm.go HB_23.out es)
                have XT_24 := Lib.hid (Lvl.keep es XT_23.out)
                have XU_24 := Lib.hid (Lvl.keep es XU_23.out)
                have X1_24 := Lib.hid (Lvl.keep es X1_23.out)
                have I1_24 := Lib.hid (carry I1_23.out es)
                have XG := Lib.hid (World.alloc_heap_new v23 (.cells (u.vals hu) 60))
                clear es
                clear HB_23 XT_23 XU_23 X1_23 I1_23
                go_wp2_with fail
                refine (HI8.out _ v23.heap.size HZ.out HB_24.out XG.out).mono ?_
                rintro e v25 ⟨h25, rfl, i25, b25⟩
                clear cT0 cT1 cT2 cT3 cT4 cU0 cU1 cU2 cU3 cU4 lT lU
                have HB_25 := Lib.hid (Trm.go HB_24.out b25)
                have XT_25 := Lib.hid (Lvl.keep b25 XT_24.out)
                have XU_25 := Lib.hid (Lvl.keep b25 XU_24.out)
                have X1_25 := Lib.hid (Lvl.keep b25 X1_24.out)
                have I1_25 := Lib.hid (carry I1_24.out b25)
                have I8_25 := Lib.hid i25
                clear b25 i25
                clear HB_24 XT_24 XU_24 X1_24 I1_24
                dsimp only [Tm.val, Tm.vals]
                clear XG
                have e26 := below_one v25 (.cells (t.vals h25) 60)
                have HB_26 := Lib.hid (Trm.go HB_25.out e26)
                have XT_26 := Lib.hid (Lvl.keep e26 XT_25.out)
                have XU_26 := Lib.hid (Lvl.keep e26 XU_25.out)
                have X1_26 := Lib.hid (Lvl.keep e26 X1_25.out)
                have I1_26 := Lib.hid (carry I1_25.out e26)
                have I8_26 := Lib.hid (carry I8_25.out e26)
                have X8_26 := Lib.hid (World.alloc_heap_new v25 (.cells (t.vals h25) 60))
                clear e26
                obtain ⟨cT0, cT1, cT2, cT3, cT4⟩ := five_cells (show v25.heap[w.heap.size]? = some (.cells #[.int .u8 t.k, .int .i64 t.n, .string t.s, .slice ht.lo t.ls.length ht.lc, .slice ht.to t.ts.length ht.tc] 60) from XT_25.out)
                have lT : w.heap.size < v25.heap.size := (Array.getElem?_eq_some_iff.1 XT_25.out).1
                clear HB_25 XT_25 XU_25 X1_25 I1_25 I8_25
                go_wp2_with fail
                refine (HST.out _ h25 HB_26.out I8_26.out).mono ?_
                rintro e v27 ⟨rfl, b27⟩
                clear cT0 cT1 cT2 cT3 cT4 lT
                have HB_27 := Lib.hid (Trm.go HB_26.out b27)
                have XT_27 := Lib.hid (Lvl.keep b27 XT_26.out)
                have XU_27 := Lib.hid (Lvl.keep b27 XU_26.out)
                have X1_27 := Lib.hid (Lvl.keep b27 X1_26.out)
                have X8_27 := Lib.hid (Lvl.keep b27 X8_26.out)
                have I1_27 := Lib.hid (carry I1_26.out b27)
                have I8_27 := Lib.hid (carry I8_26.out b27)
                clear b27
                clear HB_26 XT_26 XU_26 X1_26 X8_26 I1_26 I8_26
                obtain ⟨c10, c11, c12, c13, c14⟩ := five_cells (show v27.heap[v5.heap.size]? = some (.cells #[.int .u8 t.k, .int .i64 t.n, .string t.s, .slice h5.lo t.ls.length h5.lc, .slice h5.to t.ts.length h5.tc] 60) from X1_27.out)
                have l1 : v5.heap.size < v27.heap.size := (Array.getElem?_eq_some_iff.1 X1_27.out).1
                obtain ⟨cT0, cT1, cT2, cT3, cT4⟩ := five_cells (show v27.heap[w.heap.size]? = some (.cells #[.int .u8 t.k, .int .i64 t.n, .string t.s, .slice ht.lo t.ls.length ht.lc, .slice ht.to t.ts.length ht.tc] 60) from XT_27.out)
                have lT : w.heap.size < v27.heap.size := (Array.getElem?_eq_some_iff.1 XT_27.out).1
                go_wp2_with fail
                refine (HST.out _ h5 HB_27.out I1_27.out).mono ?_
                rintro e v28 ⟨rfl, b28⟩
                clear c10 c11 c12 c13 c14 cT0 cT1 cT2 cT3 cT4 l1 lT
                have HB_28 := Lib.hid (Trm.go HB_27.out b28)
                have XT_28 := Lib.hid (Lvl.keep b28 XT_27.out)
                have XU_28 := Lib.hid (Lvl.keep b28 XU_27.out)
                have X1_28 := Lib.hid (Lvl.keep b28 X1_27.out)
                have X8_28 := Lib.hid (Lvl.keep b28 X8_27.out)
                have I1_28 := Lib.hid (carry I1_27.out b28)
                have I8_28 := Lib.hid (carry I8_27.out b28)
                clear b28
                clear HB_27 XT_27 XU_27 X1_27 X8_27 I1_27 I8_27
                go_wp2_with fail
                refine (sub_works_any _).mono ?_
                rintro e v29 ⟨rfl, b29⟩
                have HB_29 := Lib.hid (Trm.go HB_28.out b29)
                have XT_29 := Lib.hid (Lvl.keep b29 XT_28.out)
                have XU_29 := Lib.hid (Lvl.keep b29 XU_28.out)
                have X1_29 := Lib.hid (Lvl.keep b29 X1_28.out)
                have X8_29 := Lib.hid (Lvl.keep b29 X8_28.out)
                have I1_29 := Lib.hid (carry I1_28.out b29)
                have I8_29 := Lib.hid (carry I8_28.out b29)
                clear b29
                clear HB_28 XT_28 XU_28 X1_28 X8_28 I1_28 I8_28
                go_wp2_with fail
                go_ret
                exact ⟨rfl, HB_29.out⟩
              · have d3 : (t.free == 0) = false := by simpa using hz
                go_wp2_with fail
                refine (sub_works_any _).mono ?_
                rintro e v24 ⟨rfl, b24⟩
                have HB_24 := Lib.hid (Trm.go HB_23.out b24)
                have XT_24 := Lib.hid (Lvl.keep b24 XT_23.out)
                have XU_24 := Lib.hid (Lvl.keep b24 XU_23.out)
                have X1_24 := Lib.hid (Lvl.keep b24 X1_23.out)
                have I1_24 := Lib.hid (carry I1_23.out b24)
                clear b24
                clear HB_23 XT_23 XU_23 X1_23 I1_23
                go_wp2_with fail
                go_ret
                exact ⟨rfl, HB_24.out⟩
            · have d2 : decide (t.free ≤ n + 1) = false := by simp; omega
              obtain ⟨cT0, cT1, cT2, cT3, cT4⟩ := five_cells (show v21.heap[w.heap.size]? = some (.cells #[.int .u8 t.k, .int .i64 t.n, .string t.s, .slice ht.lo t.ls.length ht.lc, .slice ht.to t.ts.length ht.tc] 60) from XT_21.out)
              have lT : w.heap.size < v21.heap.size := (Array.getElem?_eq_some_iff.1 XT_21.out).1
              go_wp2_with fail
              refine (HFR.out _ HMT.out HB_21.out).mono ?_
              rintro e v22 ⟨rfl, b22⟩
              clear cT0 cT1 cT2 cT3 cT4 lT
              have HB_22 := Lib.hid (Trm.go HB_21.out b22)
              have XT_22 := Lib.hid (Lvl.keep b22 XT_21.out)
              have XU_22 := Lib.hid (Lvl.keep b22 XU_21.out)
              have X1_22 := Lib.hid (Lvl.keep b22 X1_21.out)
              have I1_22 := Lib.hid (carry I1_21.out b22)
              clear b22
              clear HB_21 XT_21 XU_21 X1_21 I1_21
              clear d1 d2 hle hbig hwn
              by_cases hz : t.free = 0
              · have d3 : (t.free == 0) = true := by simpa using hz
                have ho1 := (Q9.out hz).symm
                subst ho1
                have HZ := Lib.hid hz
                clear hz
                obtain ⟨cT0, cT1, cT2, cT3, cT4⟩ := five_cells (show v22.heap[w.heap.size]? = some (.cells #[.int .u8 t.k, .int .i64 t.n, .string t.s, .slice ht.lo t.ls.length ht.lc, .slice ht.to t.ts.length ht.tc] 60) from XT_22.out)
                have lT : w.heap.size < v22.heap.size := (Array.getElem?_eq_some_iff.1 XT_22.out).1
                obtain ⟨cU0, cU1, cU2, cU3, cU4⟩ := five_cells (show v22.heap[w.heap.size + 1]? = some (.cells #[.int .u8 u.k, .int .i64 u.n, .string u.s, .slice hu.lo u.ls.length hu.lc, .slice hu.to u.ts.length hu.tc] 60) from XU_22.out)
                have lU : w.heap.size + 1 < v22.heap.size := (Array.getElem?_eq_some_iff.1 XU_22.out).1
                go_upto_region 20 with fail
                clear d3
                have es := below_one v22 (.cells (u.vals hu) 60)
                have HB_23 := Lib.hid (Trm.go HB_22.out es)
                have XT_23 := Lib.hid (Lvl.keep es XT_22.out)
                have XU_23 := Lib.hid (Lvl.keep es XU_22.out)
                have X1_23 := Lib.hid (Lvl.keep es X1_22.out)
                have I1_23 := Lib.hid (carry I1_22.out es)
                have XG := Lib.hid (World.alloc_heap_new v22 (.cells (u.vals hu) 60))
                clear es
                clear HB_22 XT_22 XU_22 X1_22 I1_22
                go_wp2_with fail
                refine (HI8.out _ v22.heap.size HZ.out HB_23.out XG.out).mono ?_
                rintro e v24 ⟨h24, rfl, i24, b24⟩
                clear cT0 cT1 cT2 cT3 cT4 cU0 cU1 cU2 cU3 cU4 lT lU
                have HB_24 := Lib.hid (Trm.go HB_23.out b24)
                have XT_24 := Lib.hid (Lvl.keep b24 XT_23.out)
                have XU_24 := Lib.hid (Lvl.keep b24 XU_23.out)
                have X1_24 := Lib.hid (Lvl.keep b24 X1_23.out)
                have I1_24 := Lib.hid (carry I1_23.out b24)
                have I8_24 := Lib.hid i24
                clear b24 i24
                clear HB_23 XT_23 XU_23 X1_23 I1_23
                dsimp only [Tm.val, Tm.vals]
                clear XG
                have e25 := below_one v24 (.cells (t.vals h24) 60)
                have HB_25 := Lib.hid (Trm.go HB_24.out e25)
                have XT_25 := Lib.hid (Lvl.keep e25 XT_24.out)
                have XU_25 := Lib.hid (Lvl.keep e25 XU_24.out)
                have X1_25 := Lib.hid (Lvl.keep e25 X1_24.out)
                have I1_25 := Lib.hid (carry I1_24.out e25)
                have I8_25 := Lib.hid (carry I8_24.out e25)
                have X8_25 := Lib.hid (World.alloc_heap_new v24 (.cells (t.vals h24) 60))
                clear e25
                obtain ⟨cT0, cT1, cT2, cT3, cT4⟩ := five_cells (show v24.heap[w.heap.size]? = some (.cells #[.int .u8 t.k, .int .i64 t.n, .string t.s, .slice ht.lo t.ls.length ht.lc, .slice ht.to t.ts.length ht.tc] 60) from XT_24.out)
                have lT : w.heap.size < v24.heap.size := (Array.getElem?_eq_some_iff.1 XT_24.out).1
                clear HB_24 XT_24 XU_24 X1_24 I1_24 I8_24
                go_wp2_with fail
                refine (HST.out _ h24 HB_25.out I8_25.out).mono ?_
                rintro e v26 ⟨rfl, b26⟩
                clear cT0 cT1 cT2 cT3 cT4 lT
                have HB_26 := Lib.hid (Trm.go HB_25.out b26)
                have XT_26 := Lib.hid (Lvl.keep b26 XT_25.out)
                have XU_26 := Lib.hid (Lvl.keep b26 XU_25.out)
                have X1_26 := Lib.hid (Lvl.keep b26 X1_25.out)
                have X8_26 := Lib.hid (Lvl.keep b26 X8_25.out)
                have I1_26 := Lib.hid (carry I1_25.out b26)
                have I8_26 := Lib.hid (carry I8_25.out b26)
                clear b26
                clear HB_25 XT_25 XU_25 X1_25 X8_25 I1_25 I8_25
                obtain ⟨c10, c11, c12, c13, c14⟩ := five_cells (show v26.heap[v5.heap.size]? = some (.cells #[.int .u8 t.k, .int .i64 t.n, .string t.s, .slice h5.lo t.ls.length h5.lc, .slice h5.to t.ts.length h5.tc] 60) from X1_26.out)
                have l1 : v5.heap.size < v26.heap.size := (Array.getElem?_eq_some_iff.1 X1_26.out).1
                obtain ⟨cT0, cT1, cT2, cT3, cT4⟩ := five_cells (show v26.heap[w.heap.size]? = some (.cells #[.int .u8 t.k, .int .i64 t.n, .string t.s, .slice ht.lo t.ls.length ht.lc, .slice ht.to t.ts.length ht.tc] 60) from XT_26.out)
                have lT : w.heap.size < v26.heap.size := (Array.getElem?_eq_some_iff.1 XT_26.out).1
                go_wp2_with fail
                refine (HST.out _ h5 HB_26.out I1_26.out).mono ?_
                rintro e v27 ⟨rfl, b27⟩
                clear c10 c11 c12 c13 c14 cT0 cT1 cT2 cT3 cT4 l1 lT
                have HB_27 := Lib.hid (Trm.go HB_26.out b27)
                have XT_27 := Lib.hid (Lvl.keep b27 XT_26.out)
                have XU_27 := Lib.hid (Lvl.keep b27 XU_26.out)
                have X1_27 := Lib.hid (Lvl.keep b27 X1_26.out)
                have X8_27 := Lib.hid (Lvl.keep b27 X8_26.out)
                have I1_27 := Lib.hid (carry I1_26.out b27)
                have I8_27 := Lib.hid (carry I8_26.out b27)
                clear b27
                clear HB_26 XT_26 XU_26 X1_26 X8_26 I1_26 I8_26
                go_wp2_with fail
                refine (sub_works_any _).mono ?_
                rintro e v28 ⟨rfl, b28⟩
                have HB_28 := Lib.hid (Trm.go HB_27.out b28)
                have XT_28 := Lib.hid (Lvl.keep b28 XT_27.out)
                have XU_28 := Lib.hid (Lvl.keep b28 XU_27.out)
                have X1_28 := Lib.hid (Lvl.keep b28 X1_27.out)
                have X8_28 := Lib.hid (Lvl.keep b28 X8_27.out)
                have I1_28 := Lib.hid (carry I1_27.out b28)
                have I8_28 := Lib.hid (carry I8_27.out b28)
                clear b28
                clear HB_27 XT_27 XU_27 X1_27 X8_27 I1_27 I8_27
                go_wp2_with fail
                go_ret
                exact ⟨rfl, HB_28.out⟩
              · have d3 : (t.free == 0) = false := by simpa using hz
                go_wp2_with fail
                refine (sub_works_any _).mono ?_
                rintro e v23 ⟨rfl, b23⟩
                have HB_23 := Lib.hid (Trm.go HB_22.out b23)
                have XT_23 := Lib.hid (Lvl.keep b23 XT_22.out)
                have XU_23 := Lib.hid (Lvl.keep b23 XU_22.out)
                have X1_23 := Lib.hid (Lvl.keep b23 X1_22.out)
                have I1_23 := Lib.hid (carry I1_22.out b23)
                clear b23
                clear HB_22 XT_22 XU_22 X1_22 I1_22
                go_wp2_with fail
                go_ret
                exact ⟨rfl, HB_23.out⟩
end Go.Proofs.Ytninalnolklokaa
