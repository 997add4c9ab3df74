/-
  battenlaw04.SubstInsts: the walk.
-/
import Derived.Test.YtijdlihodpodjaaQSubInstsMath
import Derived.Test.YtijdlihodpodjaaQSubRefInst
import Derived.Test.YtijdlihodpodjaaQSubFew
import Derived.Test.YtijdlihodpodjaaQSubWorks
import Derived.Deep.RegionHeld3
namespace Go.Proofs.Ytijdlihodpodjaa
open Go.RowKit Go.Shelf Lvl Trm

def Trm.MayRel (w : World) (l : List Tm) (M : Bool) (v i : Value) (wr : World) : Prop :=
  ∃ (j : Nat) (m : Bool), v = .bool m ∧ i = .int .i64 j ∧ j ≤ l.length ∧ (m && (l.drop j).all Tm.may) = M ∧ Below w.heap.size w wr

set_option maxRecDepth 100000 in
set_option maxHeartbeats 80000000 in
theorem law_subst_insts (t : Tm) (ht : Hd) (l : List Tm) (lo : Option Addr) (lc : Nat) (L : List Lv) (bo : Option Addr) (bc : Nat) (w : World) (hin : t.In w.heap.size w ht) (hrow : RowIn w.heap.size w lo 0 l) (hr : LRow w bo L) (hlo : Low w.heap.size bo L.length) (hbc : L.length ≤ bc) :
    Calls Try.prog 6 #[t.val ht, .slice lo l.length lc, .slice bo L.length bc] w fun e w' => e = .returned (.bool true) ∧ Below w.heap.size w w' := by
  have HIN := Lib.hid hin
  have HRO := Lib.hid hrow
  have HLV := Lib.hid (fun (W : World) (hW : Below w.heap.size w W) => (⟨LRow.low hr hlo hW, fun hp a ha => Nat.lt_of_lt_of_le (hlo hp a ha) hW.size⟩ : LRow W bo L ∧ Low W.heap.size bo L.length))
  have HF := Lib.hid (fun (W : World) (hW : Below w.heap.size w W) => show Calls Try.prog 31 #[.agg #[.int .u8 t.k, .int .i64 t.n, .string t.s, .slice ht.lo t.ls.length ht.lc, .slice ht.to t.ts.length ht.tc], .slice lo l.length lc] W (fun e w' => e = .returned (.bool (fewB t l)) ∧ Below W.heap.size W w') from few_all t ht l lo lc W (carry hin hW) (carryRow hrow hW))
  have HM := Lib.hid (fun (W : World) (hW : Below w.heap.size w W) => show Calls Try.prog 13 #[.agg #[.int .u8 t.k, .int .i64 t.n, .string t.s, .slice ht.lo t.ls.length ht.lc, .slice ht.to t.ts.length ht.tc]] W (fun e w' => e = .returned (.bool t.may) ∧ Below W.heap.size W w') from RefTMay_any t ht W (carry hin hW))
  clear hin hrow hr hlo
  unfold Tm.val
  dsimp only [Tm.vals]
  obtain ⟨F, hFe⟩ : ∃ F, fewB t l = F := ⟨_, rfl⟩
  rw [hFe] at HF
  have HFE := Lib.hid hFe
  clear hFe
  have HB_0 := Lib.hid (below_one w (.cells (t.vals ht) 25))
  have XT_0 := Lib.hid (World.alloc_heap_new w (.cells (t.vals ht) 25))
  go_enter Try.func6, Try.ntmps6
  go_wp2_with fail
  refine (HF.out _ HB_0.out).mono ?_
  rintro e v1 ⟨rfl, b1⟩
  have HB_1 := Lib.hid (Trm.go HB_0.out b1)
  have XT_1 := Lib.hid (Lvl.keep b1 XT_0.out)
  clear b1
  clear HB_0 XT_0
  obtain ⟨cT0, cT1, cT2, cT3, cT4⟩ := five_cells (show v1.heap[w.heap.size]? = some (.cells #[.int .u8 t.k, .int .i64 t.n, .string t.s, .slice ht.lo t.ls.length ht.lc, .slice ht.to t.ts.length ht.tc] 25) from XT_1.out)
  have lT : w.heap.size < v1.heap.size := (Array.getElem?_eq_some_iff.1 XT_1.out).1
  cases F
  · go_wp2_with fail
    refine (sub_works_any _).mono ?_
    rintro e v2 ⟨rfl, b2⟩
    clear cT0 cT1 cT2 cT3 cT4 lT
    have HB_2 := Lib.hid (Trm.go HB_1.out b2)
    have XT_2 := Lib.hid (Lvl.keep b2 XT_1.out)
    clear b2
    clear HB_1 XT_1
    go_wp2_with fail
    go_ret
    exact ⟨rfl, HB_2.out⟩
  · by_cases h1 : 10 < L.length
    · have d1 : decide ((10 : Int) < L.length) = true := by simp; omega
      clear h1
      go_wp2_with fail
      refine (sub_works_any _).mono ?_
      rintro e v2 ⟨rfl, b2⟩
      clear cT0 cT1 cT2 cT3 cT4 lT
      have HB_2 := Lib.hid (Trm.go HB_1.out b2)
      have XT_2 := Lib.hid (Lvl.keep b2 XT_1.out)
      clear b2
      clear HB_1 XT_1
      go_wp2_with fail
      go_ret
      exact ⟨rfl, HB_2.out⟩
    · have d1 : decide ((10 : Int) < L.length) = false := by simp; omega
      have hfew := HFE.out
      unfold fewB at hfew
      simp only [Bool.and_eq_true, Bool.not_eq_true', decide_eq_true_eq, List.all_eq_true] at hfew
      obtain ⟨hdt, hl10, hdl⟩ := hfew
      have HG := Lib.hid (fun (W : World) (hW : Below w.heap.size w W) => show Calls Try.prog 38 #[.agg #[.int .u8 t.k, .int .i64 t.n, .string t.s, .slice ht.lo t.ls.length ht.lc, .slice ht.to t.ts.length ht.tc], .slice lo l.length lc] W (fun e w' => e = .returned (.int .i64 (grown t l)) ∧ Below W.heap.size W w') from Grown_any t ht l lo lc W (carry HIN.out hW) (carryRow HRO.out hW) (by omega) hdt hdl)
      clear hdt hdl HFE HF
      generalize grown t l = g at HG
      go_wp2_with fail
      refine (HG.out _ HB_1.out).mono ?_
      rintro e v2 ⟨rfl, b2⟩
      clear cT0 cT1 cT2 cT3 cT4 lT
      have HB_2 := Lib.hid (Trm.go HB_1.out b2)
      have XT_2 := Lib.hid (Lvl.keep b2 XT_1.out)
      clear b2
      clear HB_1 XT_1
      obtain ⟨cT0, cT1, cT2, cT3, cT4⟩ := five_cells (show v2.heap[w.heap.size]? = some (.cells #[.int .u8 t.k, .int .i64 t.n, .string t.s, .slice ht.lo t.ls.length ht.lc, .slice ht.to t.ts.length ht.tc] 25) from XT_2.out)
      have lT : w.heap.size < v2.heap.size := (Array.getElem?_eq_some_iff.1 XT_2.out).1
      by_cases h2 : 1048576 < g
      · have d2 : decide (1048576 < g) = true := by simpa using h2
        clear h2
        go_wp2_with fail
        refine (sub_works_any _).mono ?_
        rintro e v3 ⟨rfl, b3⟩
        clear cT0 cT1 cT2 cT3 cT4 lT
        have HB_3 := Lib.hid (Trm.go HB_2.out b3)
        have XT_3 := Lib.hid (Lvl.keep b3 XT_2.out)
        clear b3
        clear HB_2 XT_2
        go_wp2_with fail
        go_ret
        exact ⟨rfl, HB_3.out⟩
      · have d2 : decide (1048576 < g) = false := by simpa using h2
        obtain ⟨a, ea, qa⟩ : ∃ a ea, levelsAns t L = (a, ea) := ⟨_, _, rfl⟩
        obtain ⟨b, eb, qb⟩ : ∃ b eb, levelsB t L = (b, eb) := ⟨_, _, rfl⟩
        obtain ⟨c, ec, qc⟩ : ∃ c ec, instAns t l = (c, ec) := ⟨_, _, rfl⟩
        have hT1 : toldB a ea b eb = true := by
          have := levels_told t L
          rw [qa, qb] at this
          exact this
        have HA := Lib.hid (fun (W : World) (hW : Below w.heap.size w W) => show Calls Try.prog 39 #[.agg #[.int .u8 t.k, .int .i64 t.n, .string t.s, .slice ht.lo t.ls.length ht.lc, .slice ht.to t.ts.length ht.tc], .slice bo L.length bc] W (fun e w' => ∃ h', e = .returned (.tuple #[a.val h', .int .i64 ea]) ∧ a.In w'.heap.size w' h' ∧ Below W.heap.size W w') from by
          have := Levels_any t ht L bo bc W (carry HIN.out hW) (HLV.out W hW).1 (HLV.out W hW).2 (by omega) hbc
          rw [qa] at this
          exact this)
        have HC := Lib.hid (fun (W : World) (hW : Below w.heap.size w W) => show Calls Try.prog 41 #[.agg #[.int .u8 t.k, .int .i64 t.n, .string t.s, .slice ht.lo t.ls.length ht.lc, .slice ht.to t.ts.length ht.tc], .slice lo l.length lc] W (fun e w' => ∃ h', e = .returned (.tuple #[c.val h', .int .i64 ec]) ∧ c.In w'.heap.size w' h' ∧ Below W.heap.size W w') from by
          have := Inst_any t ht l lo lc W (carry HIN.out hW) (carryRow HRO.out hW) (by omega)
          rw [qc] at this
          exact this)
        have HT1 := Lib.hid (fun (W : World) (h h' : Hd) (hi : a.In W.heap.size W h) (hi' : b.In W.heap.size W h') => show Calls Try.prog 37 #[.agg #[.int .u8 a.k, .int .i64 a.n, .string a.s, .slice h.lo a.ls.length h.lc, .slice h.to a.ts.length h.tc], .int .i64 ea, .agg #[.int .u8 b.k, .int .i64 b.n, .string b.s, .slice h'.lo b.ls.length h'.lc, .slice h'.to b.ts.length h'.tc], .int .i64 eb] W (fun e w' => e = .returned (.bool true) ∧ Below W.heap.size W w') from hT1 ▸ told_any a b h h' ea eb W hi hi')
        have HQB := Lib.hid qb
        have HQC := Lib.hid qc
        have HL10 : Hid (L.length ≤ 1000000) := Lib.hid (by omega)
        clear qa qb qc hT1 h1 h2
        obtain ⟨M, hMe⟩ : ∃ M, (t.may && l.all Tm.may) = M := ⟨_, rfl⟩
        have HME := Lib.hid hMe
        clear hMe
        go_wp2_with fail
        refine (HM.out _ HB_2.out).mono ?_
        rintro e v3 ⟨rfl, b3⟩
        clear cT0 cT1 cT2 cT3 cT4 lT
        have HB_3 := Lib.hid (Trm.go HB_2.out b3)
        have XT_3 := Lib.hid (Lvl.keep b3 XT_2.out)
        clear b3
        clear HB_2 XT_2
        obtain ⟨cT0, cT1, cT2, cT3, cT4⟩ := five_cells (show v3.heap[w.heap.size]? = some (.cells #[.int .u8 t.k, .int .i64 t.n, .string t.s, .slice ht.lo t.ls.length ht.lc, .slice ht.to t.ts.length ht.tc] 25) from XT_3.out)
        have lT : w.heap.size < v3.heap.size := (Array.getElem?_eq_some_iff.1 XT_3.out).1
        go_wp2_with fail
        refine (HA.out _ HB_3.out).mono ?_
        rintro e v4 ⟨h4, rfl, i4, b4⟩
        clear cT0 cT1 cT2 cT3 cT4 lT
        have HB_4 := Lib.hid (Trm.go HB_3.out b4)
        have XT_4 := Lib.hid (Lvl.keep b4 XT_3.out)
        have IA_4 := Lib.hid i4
        clear b4 i4
        clear HB_3 XT_3
        dsimp only [Tm.val, Tm.vals]
        have e5 := below_one v4 (.cells (a.vals h4) 25)
        have HB_5 := Lib.hid (Trm.go HB_4.out e5)
        have XT_5 := Lib.hid (Lvl.keep e5 XT_4.out)
        have IA_5 := Lib.hid (carry IA_4.out e5)
        have XA_5 := Lib.hid (World.alloc_heap_new v4 (.cells (a.vals h4) 25))
        clear e5
        obtain ⟨cT0, cT1, cT2, cT3, cT4⟩ := five_cells (show v4.heap[w.heap.size]? = some (.cells #[.int .u8 t.k, .int .i64 t.n, .string t.s, .slice ht.lo t.ls.length ht.lc, .slice ht.to t.ts.length ht.tc] 25) from XT_4.out)
        have lT : w.heap.size < v4.heap.size := (Array.getElem?_eq_some_iff.1 XT_4.out).1
        clear HB_4 XT_4 IA_4
        have HBW := Lib.hid HB_5.out
        have KT := Lib.hid XT_5.out
        have KA := Lib.hid XA_5.out
        have JA := Lib.hid IA_5.out
        have eZ := below_one (v4.alloc (.cells (a.vals h4) 25)) (.cells #[.int .u8 0, .int .i64 0, .string ⟨#[]⟩, .slice none 0 0, .slice none 0 0] 25)
        have HB_6 := Lib.hid (Trm.go HB_5.out eZ)
        have XT_6 := Lib.hid (Lvl.keep eZ XT_5.out)
        have XA_6 := Lib.hid (Lvl.keep eZ XA_5.out)
        have IA_6 := Lib.hid (carry IA_5.out eZ)
        have XZ_6 := Lib.hid (World.alloc_heap_new (v4.alloc (.cells (a.vals h4) 25)) (.cells #[.int .u8 0, .int .i64 0, .string ⟨#[]⟩, .slice none 0 0, .slice none 0 0] 25))
        have hzn : w.heap.size ≤ (v4.alloc (.cells (a.vals h4) 25)).heap.size := HBW.out.size
        clear eZ
        clear HB_5 XT_5 XA_5 IA_5
        cases hm : t.may
        · have hq := HQB.out
          rw [show levelsB t L = (zeroT, 1) by unfold levelsB; rw [hm]; rfl] at hq
          obtain ⟨rfl, rfl⟩ : zeroT = b ∧ (1 : Int) = eb := Prod.mk.inj hq
          have HT3 := Lib.hid (fun (W : World) (h : Hd) (hi : a.In W.heap.size W h) => show Calls Try.prog 37 #[.agg #[.int .u8 a.k, .int .i64 a.n, .string a.s, .slice h.lo a.ls.length h.lc, .slice h.to a.ts.length h.tc], .int .i64 ea, .agg #[.int .u8 0, .int .i64 0, .string ⟨#[]⟩, .slice none 0 0, .slice none 0 0], .int .i64 1] W (fun e w' => e = .returned (.bool true) ∧ Below W.heap.size W w') from HT1.out W h ⟨none, 0, none, 0⟩ hi (leaf_in (by decide) (by decide) (by decide) (by decide) (by decide)))
          clear hq HQB HT1
          go_wp2_with fail
          refine (HT3.out _ h4 IA_6.out).mono ?_
          rintro e v7 ⟨rfl, b7⟩
          clear cT0 cT1 cT2 cT3 cT4 lT
          have HB_7 := Lib.hid (Trm.go HB_6.out b7)
          have XT_7 := Lib.hid (Lvl.keep b7 XT_6.out)
          clear b7
          have HS := Lib.hid HB_7.out
          have HMS : Hid ((false && (l.drop 0).all Tm.may) = M) := Lib.hid (by rw [← HME.out, hm]; rfl)
          go_wp2_with fail
          go_loopw [7, 12] (fun v i wr => MayRel v7 l M v i wr) (fun _ i _ => l.length - (intOf i).toNat)
          case atStart => exact ⟨0, false, rfl, rfl, by omega, HMS.out, Below.refl _ _⟩
          case round =>
            obtain ⟨j, mb, rfl, rfl, hj, hM, hbel⟩ := hrel
            have HMJ := Lib.hid hM
            have HBE := Lib.hid hbel
            have HBW2 := Lib.hid (Trm.go HS.out hbel)
            clear hM hbel
            by_cases hlt : j < l.length
            · obtain ⟨b', off, rfl, hb', hx, ⟨p0, p1, p2, p3, p4⟩, hi⟩ := (RowIn.below HRO.out HBW2.out).place j hlt
              rw [Nat.zero_add] at p0 p1 p2 p3 p4
              have HI := Lib.hid (Tm.In.mono HBW2.out.size _ _ hi)
              have HX := Lib.hid (fun (W : World) (hW : Below wr.heap.size wr W) => RefTMay_any l[j] hx W (carry HI.out hW))
              have HN : Hid ((mb && (l[j].may && (l.drop (j + 1)).all Tm.may)) = M) := Lib.hid (by
                have h0 := HMJ.out
                rw [List.drop_eq_getElem_cons hlt, List.all_cons] at h0
                exact h0)
              clear hi
              generalize l[j].may = mx at HX HN
              generalize l[j] = x at p0 p1 p2 p3 p4 HX HI
              unfold Tm.val at HX
              dsimp only [Tm.vals] at HX
              cases mb
              · go_wp2_with fail
                go_roundw
                case rel => exact ⟨j + 1, false, rfl, by go_num, by omega, by rw [← HN.out]; rfl, HBE.out⟩
                case measure => simp [intOf]; omega
              · go_wp2_with fail
                refine (HX.out _ (Below.refl _ _)).mono ?_
                rintro e w2 ⟨rfl, b2⟩
                have HB2 := Lib.hid (Trm.go HBE.out b2)
                clear b2 p0 p1 p2 p3 p4
                go_wp2_with fail
                go_roundw
                case rel => exact ⟨j + 1, mx, rfl, by go_num, by omega, by rw [← HN.out, Bool.true_and], HB2.out⟩
                case measure => simp [intOf]; omega
            · have HMM : Hid (mb = M) := Lib.hid (by
                have h0 := HMJ.out
                rw [List.drop_eq_nil_of_le (by omega), List.all_nil, Bool.and_true] at h0
                exact h0)
              have hmm := HMM.out
              subst hmm
              have HB_8 := Lib.hid HBW2.out
              have XT_8 := Lib.hid ((HBE.out.block _ (Array.getElem?_eq_some_iff.1 XT_7.out).1).trans XT_7.out)
              obtain ⟨cT0, cT1, cT2, cT3, cT4⟩ := five_cells (show wr.heap[w.heap.size]? = some (.cells #[.int .u8 t.k, .int .i64 t.n, .string t.s, .slice ht.lo t.ls.length ht.lc, .slice ht.to t.ts.length ht.tc] 25) from XT_8.out)
              have lT : w.heap.size < wr.heap.size := (Array.getElem?_eq_some_iff.1 XT_8.out).1
              go_wp2_with fail
              refine (HC.out _ HB_8.out).mono ?_
              rintro e v9 ⟨h9, rfl, i9, b9⟩
              clear cT0 cT1 cT2 cT3 cT4 lT
              have HB_9 := Lib.hid (Trm.go HB_8.out b9)
              have XT_9 := Lib.hid (Lvl.keep b9 XT_8.out)
              have IC_9 := Lib.hid i9
              clear b9 i9
              clear HB_8 XT_8
              dsimp only [Tm.val, Tm.vals]
              have e10 := below_one v9 (.cells (c.vals h9) 25)
              have HB_10 := Lib.hid (Trm.go HB_9.out e10)
              have XT_10 := Lib.hid (Lvl.keep e10 XT_9.out)
              have IC_10 := Lib.hid (carry IC_9.out e10)
              have XC_10 := Lib.hid (World.alloc_heap_new v9 (.cells (c.vals h9) 25))
              clear e10
              obtain ⟨cT0, cT1, cT2, cT3, cT4⟩ := five_cells (show v9.heap[w.heap.size]? = some (.cells #[.int .u8 t.k, .int .i64 t.n, .string t.s, .slice ht.lo t.ls.length ht.lc, .slice ht.to t.ts.length ht.tc] 25) from XT_9.out)
              have lT : w.heap.size < v9.heap.size := (Array.getElem?_eq_some_iff.1 XT_9.out).1
              clear HB_9 XT_9 IC_9
              have hmf : mb = false := by rw [← HME.out, hm]; rfl
              subst hmf
              have hq := HQC.out
              rw [inst_none HME.out] at hq
              obtain ⟨rfl, rfl⟩ : zeroT = c ∧ (1 : Int) = ec := Prod.mk.inj hq
              have HSZ := Lib.hid (fun (W : World) (h : Hd) (hi : zeroT.In W.heap.size W h) => show Calls Try.prog 18 #[.agg #[.int .u8 zeroT.k, .int .i64 zeroT.n, .string zeroT.s, .slice h.lo zeroT.ls.length h.lc, .slice h.to zeroT.ts.length h.tc], .agg #[.int .u8 0, .int .i64 0, .string ⟨#[]⟩, .slice none 0 0, .slice none 0 0]] W (fun e w' => e = .returned (.bool true) ∧ Below W.heap.size W w') from (show same zeroT zeroT = true from same_iff.2 rfl) ▸ RefSame_any zeroT zeroT h ⟨none, 0, none, 0⟩ W hi (leaf_in (by decide) (by decide) (by decide) (by decide) (by decide)))
              clear hq HQC
              go_wp2_with fail
              refine (HSZ.out _ h9 IC_10.out).mono ?_
              rintro e v11 ⟨rfl, b11⟩
              clear cT0 cT1 cT2 cT3 cT4 lT
              have HB_11 := Lib.hid (Trm.go HB_10.out b11)
              have XT_11 := Lib.hid (Lvl.keep b11 XT_10.out)
              have XC_11 := Lib.hid (Lvl.keep b11 XC_10.out)
              have IC_11 := Lib.hid (carry IC_10.out b11)
              clear b11
              clear HB_10 XT_10 XC_10 IC_10
              go_wp2_with fail
              refine (sub_works_any _).mono ?_
              rintro e v12 ⟨rfl, b12⟩
              have HB_12 := Lib.hid (Trm.go HB_11.out b12)
              have XT_12 := Lib.hid (Lvl.keep b12 XT_11.out)
              have XC_12 := Lib.hid (Lvl.keep b12 XC_11.out)
              have IC_12 := Lib.hid (carry IC_11.out b12)
              clear b12
              clear HB_11 XT_11 XC_11 IC_11
              go_wp2_with fail
              go_ret
              exact ⟨rfl, HB_12.out⟩
        · have hq := HQB.out
          rw [show levelsB t L = levB L t by unfold levelsB; rw [hm]; rfl] at hq
          have HR := Lib.hid (fun (W : World) (hW : Below w.heap.size w W) => RefLevels_any L bo bc HL10.out w.heap.size t ht 1 W (OkMay.start hm) (Tm.In.below hW _ _ HIN.out) (HLV.out W hW).1 (HLV.out w (Below.refl _ _)).2 hW.size)
          rw [hq] at HR
          delta LevPost at HR
          dsimp only at HR
          unfold Tm.val at HR
          dsimp only [Tm.vals] at HR
          clear hq HQB
          go_wp2_with fail
          refine (HR.out _ HB_6.out).mono ?_
          rintro e vr ⟨hb, rfl, fB, br⟩
          have HBN := Lib.hid (show Below (v4.alloc (.cells (a.vals h4) 25)).heap.size (v4.alloc (.cells (a.vals h4) 25)) vr from Trm.go (below_one _ _) br)
          have HBr := Lib.hid (Trm.go HB_6.out br)
          have XZr := Lib.hid (Lvl.keep br XZ_6.out)
          have HFB := Lib.hid fB
          have hzm := (Array.getElem?_eq_some_iff.1 XZ_6.out).1
          clear br fB
          clear cT0 cT1 cT2 cT3 cT4 lT
          obtain ⟨wn, hwn⟩ : ∃ wn, wn = (v4.alloc (.cells (a.vals h4) 25)) := ⟨_, rfl⟩
          have hzs : wn.heap.size < (wn.alloc (.cells #[.int .u8 0, .int .i64 0, .string ⟨#[]⟩, .slice none 0 0, .slice none 0 0] 25)).heap.size := by simp
          rw [← hwn] at HBW hzn XZr KT KA JA HBN HFB
          have hsz : v4.heap.size + 1 = wn.heap.size := by rw [hwn, World.size_alloc]
          rw [hsz]
          clear hwn hsz hzm
          have hzr : wn.heap.size < vr.heap.size := (Array.getElem?_eq_some_iff.1 XZr.out).1
          obtain ⟨z0, z1, z2, z3, z4⟩ := five_cells XZr.out
          obtain ⟨f0, f1, f2, f3, f4⟩ := five_free XZr.out
          dsimp only [Tm.val, Tm.vals]
          go_upto_region 8 with fail
          have h5 := putT_self XZr.out (.int .u8 b.k) (.int .i64 b.n) (.string b.s) (.slice hb.lo b.ls.length hb.lc) (.slice hb.to b.ts.length hb.tc)
          have r5 := putT_ran vr wn.heap.size (.int .u8 b.k) (.int .i64 b.n) (.string b.s) (.slice hb.lo b.ls.length hb.lc) (.slice hb.to b.ts.length hb.tc)
          have bN5 := HBN.out.trans (r5.below (Nat.le_refl _) (Nat.le_of_lt hzr))
          have b5 := putT_below HBr.out hzn (.int .u8 b.k) (.int .i64 b.n) (.string b.s) (.slice hb.lo b.ls.length hb.lc) (.slice hb.to b.ts.length hb.tc)
          unfold putT at h5 r5 bN5 b5
          generalize hW : (((((vr.setCell ⟨wn.heap.size, 0, none⟩ (.int .u8 b.k)).setCell ⟨wn.heap.size, 1, none⟩ (.int .i64 b.n)).setCell ⟨wn.heap.size, 2, none⟩ (.string b.s)).setCell ⟨wn.heap.size, 3, none⟩ (.slice hb.lo b.ls.length hb.lc)).setCell ⟨wn.heap.size, 4, none⟩ (.slice hb.to b.ts.length hb.tc)) = W4 at h5 r5 bN5 b5 ⊢
          have HB_106 := Lib.hid b5
          have XT_106 := Lib.hid ((bN5.block _ (Array.getElem?_eq_some_iff.1 KT.out).1).trans KT.out)
          have XA_106 := Lib.hid ((bN5.block _ (Array.getElem?_eq_some_iff.1 KA.out).1).trans KA.out)
          have IA_106 := Lib.hid (carry JA.out bN5)
          have XD_106 := Lib.hid h5
          have ID_106 := Lib.hid (HFB.out.step (RanS.of_ran r5 ⟨hzn, hzs⟩)).here
          clear hW h5 r5 bN5 b5 z0 z1 z2 z3 z4 f0 f1 f2 f3 f4
          obtain ⟨cA0, cA1, cA2, cA3, cA4⟩ := five_cells (show W4.heap[v4.heap.size]? = some (.cells #[.int .u8 a.k, .int .i64 a.n, .string a.s, .slice h4.lo a.ls.length h4.lc, .slice h4.to a.ts.length h4.tc] 25) from XA_106.out)
          have lA : v4.heap.size < W4.heap.size := (Array.getElem?_eq_some_iff.1 XA_106.out).1
          obtain ⟨cD0, cD1, cD2, cD3, cD4⟩ := five_cells (show W4.heap[wn.heap.size]? = some (.cells #[.int .u8 b.k, .int .i64 b.n, .string b.s, .slice hb.lo b.ls.length hb.lc, .slice hb.to b.ts.length hb.tc] 25) from XD_106.out)
          have lD : wn.heap.size < W4.heap.size := (Array.getElem?_eq_some_iff.1 XD_106.out).1
          go_wp2_with fail
          refine (HT1.out _ h4 hb IA_106.out ID_106.out).mono ?_
          rintro e v107 ⟨rfl, b107⟩
          clear cA0 cA1 cA2 cA3 cA4 cD0 cD1 cD2 cD3 cD4 lA lD
          have HB_107 := Lib.hid (Trm.go HB_106.out b107)
          have XT_107 := Lib.hid (Lvl.keep b107 XT_106.out)
          have XA_107 := Lib.hid (Lvl.keep b107 XA_106.out)
          have XD_107 := Lib.hid (Lvl.keep b107 XD_106.out)
          have IA_107 := Lib.hid (carry IA_106.out b107)
          have ID_107 := Lib.hid (carry ID_106.out b107)
          clear b107
          clear HB_106 XT_106 XA_106 XD_106 IA_106 ID_106
          have HS := Lib.hid HB_107.out
          have HMS : Hid ((true && (l.drop 0).all Tm.may) = M) := Lib.hid (by rw [← HME.out, hm]; rfl)
          go_wp2_with fail
          go_loopw [7, 12] (fun v i wr => MayRel v107 l M v i wr) (fun _ i _ => l.length - (intOf i).toNat)
          case atStart => exact ⟨0, true, rfl, rfl, by omega, HMS.out, Below.refl _ _⟩
          case round =>
            obtain ⟨j, mb, rfl, rfl, hj, hM, hbel⟩ := hrel
            have HMJ := Lib.hid hM
            have HBE := Lib.hid hbel
            have HBW2 := Lib.hid (Trm.go HS.out hbel)
            clear hM hbel
            by_cases hlt : j < l.length
            · obtain ⟨b', off, rfl, hb', hx, ⟨p0, p1, p2, p3, p4⟩, hi⟩ := (RowIn.below HRO.out HBW2.out).place j hlt
              rw [Nat.zero_add] at p0 p1 p2 p3 p4
              have HI := Lib.hid (Tm.In.mono HBW2.out.size _ _ hi)
              have HX := Lib.hid (fun (W : World) (hW : Below wr.heap.size wr W) => RefTMay_any l[j] hx W (carry HI.out hW))
              have HN : Hid ((mb && (l[j].may && (l.drop (j + 1)).all Tm.may)) = M) := Lib.hid (by
                have h0 := HMJ.out
                rw [List.drop_eq_getElem_cons hlt, List.all_cons] at h0
                exact h0)
              clear hi
              generalize l[j].may = mx at HX HN
              generalize l[j] = x at p0 p1 p2 p3 p4 HX HI
              unfold Tm.val at HX
              dsimp only [Tm.vals] at HX
              cases mb
              · go_wp2_with fail
                go_roundw
                case rel => exact ⟨j + 1, false, rfl, by go_num, by omega, by rw [← HN.out]; rfl, HBE.out⟩
                case measure => simp [intOf]; omega
              · go_wp2_with fail
                refine (HX.out _ (Below.refl _ _)).mono ?_
                rintro e w2 ⟨rfl, b2⟩
                have HB2 := Lib.hid (Trm.go HBE.out b2)
                clear b2 p0 p1 p2 p3 p4
                go_wp2_with fail
                go_roundw
                case rel => exact ⟨j + 1, mx, rfl, by go_num, by omega, by rw [← HN.out, Bool.true_and], HB2.out⟩
                case measure => simp [intOf]; omega
            · have HMM : Hid (mb = M) := Lib.hid (by
                have h0 := HMJ.out
                rw [List.drop_eq_nil_of_le (by omega), List.all_nil, Bool.and_true] at h0
                exact h0)
              have hmm := HMM.out
              subst hmm
              have HB_108 := Lib.hid HBW2.out
              have XT_108 := Lib.hid ((HBE.out.block _ (Array.getElem?_eq_some_iff.1 XT_107.out).1).trans XT_107.out)
              obtain ⟨cT0, cT1, cT2, cT3, cT4⟩ := five_cells (show wr.heap[w.heap.size]? = some (.cells #[.int .u8 t.k, .int .i64 t.n, .string t.s, .slice ht.lo t.ls.length ht.lc, .slice ht.to t.ts.length ht.tc] 25) from XT_108.out)
              have lT : w.heap.size < wr.heap.size := (Array.getElem?_eq_some_iff.1 XT_108.out).1
              go_wp2_with fail
              refine (HC.out _ HB_108.out).mono ?_
              rintro e v109 ⟨h109, rfl, i109, b109⟩
              clear cT0 cT1 cT2 cT3 cT4 lT
              have HB_109 := Lib.hid (Trm.go HB_108.out b109)
              have XT_109 := Lib.hid (Lvl.keep b109 XT_108.out)
              have IC_109 := Lib.hid i109
              clear b109 i109
              clear HB_108 XT_108
              dsimp only [Tm.val, Tm.vals]
              have e110 := below_one v109 (.cells (c.vals h109) 25)
              have HB_110 := Lib.hid (Trm.go HB_109.out e110)
              have XT_110 := Lib.hid (Lvl.keep e110 XT_109.out)
              have IC_110 := Lib.hid (carry IC_109.out e110)
              have XC_110 := Lib.hid (World.alloc_heap_new v109 (.cells (c.vals h109) 25))
              clear e110
              obtain ⟨cT0, cT1, cT2, cT3, cT4⟩ := five_cells (show v109.heap[w.heap.size]? = some (.cells #[.int .u8 t.k, .int .i64 t.n, .string t.s, .slice ht.lo t.ls.length ht.lc, .slice ht.to t.ts.length ht.tc] 25) from XT_109.out)
              have lT : w.heap.size < v109.heap.size := (Array.getElem?_eq_some_iff.1 XT_109.out).1
              clear HB_109 XT_109 IC_109
              cases mb
              · have hq := HQC.out
                rw [inst_none HME.out] at hq
                obtain ⟨rfl, rfl⟩ : zeroT = c ∧ (1 : Int) = ec := Prod.mk.inj hq
                have HSZ := Lib.hid (fun (W : World) (h : Hd) (hi : zeroT.In W.heap.size W h) => show Calls Try.prog 18 #[.agg #[.int .u8 zeroT.k, .int .i64 zeroT.n, .string zeroT.s, .slice h.lo zeroT.ls.length h.lc, .slice h.to zeroT.ts.length h.tc], .agg #[.int .u8 0, .int .i64 0, .string ⟨#[]⟩, .slice none 0 0, .slice none 0 0]] W (fun e w' => e = .returned (.bool true) ∧ Below W.heap.size W w') from (show same zeroT zeroT = true from same_iff.2 rfl) ▸ RefSame_any zeroT zeroT h ⟨none, 0, none, 0⟩ W hi (leaf_in (by decide) (by decide) (by decide) (by decide) (by decide)))
                clear hq HQC
                go_wp2_with fail
                refine (HSZ.out _ h109 IC_110.out).mono ?_
                rintro e v111 ⟨rfl, b111⟩
                clear cT0 cT1 cT2 cT3 cT4 lT
                have HB_111 := Lib.hid (Trm.go HB_110.out b111)
                have XT_111 := Lib.hid (Lvl.keep b111 XT_110.out)
                have XC_111 := Lib.hid (Lvl.keep b111 XC_110.out)
                have IC_111 := Lib.hid (carry IC_110.out b111)
                clear b111
                clear HB_110 XT_110 XC_110 IC_110
                go_wp2_with fail
                refine (sub_works_any _).mono ?_
                rintro e v112 ⟨rfl, b112⟩
                have HB_112 := Lib.hid (Trm.go HB_111.out b112)
                have XT_112 := Lib.hid (Lvl.keep b112 XT_111.out)
                have XC_112 := Lib.hid (Lvl.keep b112 XC_111.out)
                have IC_112 := Lib.hid (carry IC_111.out b112)
                clear b112
                clear HB_111 XT_111 XC_111 IC_111
                go_wp2_with fail
                go_ret
                exact ⟨rfl, HB_112.out⟩
              · have hT2 := inst_told HME.out
                rw [HQC.out] at hT2
                have hlm : ∀ x ∈ l, x.may = true := by
                  have h0 := HME.out
                  rw [Bool.and_eq_true] at h0
                  exact List.all_eq_true.1 h0.2
                have HRI := Lib.hid (fun (W : World) (hW : Below w.heap.size w W) => RefTInst_any l lo lc (by omega) hlm t ht W hm (carry HIN.out hW) (carryRow HRO.out hW))
                generalize t.put (gInst l) 0 = d at HRI hT2
                delta RefPost at HRI
                unfold Tm.val at HRI
                dsimp only [Tm.vals] at HRI
                have HT2 := Lib.hid (fun (W : World) (h h' : Hd) (hi : c.In W.heap.size W h) (hi' : d.In W.heap.size W h') => show Calls Try.prog 37 #[.agg #[.int .u8 c.k, .int .i64 c.n, .string c.s, .slice h.lo c.ls.length h.lc, .slice h.to c.ts.length h.tc], .int .i64 ec, .agg #[.int .u8 d.k, .int .i64 d.n, .string d.s, .slice h'.lo d.ls.length h'.lc, .slice h'.to d.ts.length h'.tc], .int .i64 0] W (fun e w' => e = .returned (.bool true) ∧ Below W.heap.size W w') from hT2 ▸ told_any c d h h' ec 0 W hi hi')
                clear hT2 hlm HQC
                obtain ⟨vc, hvc⟩ : ∃ vc, vc = v109.alloc (.cells (c.vals h109) 25) := ⟨_, rfl⟩
                have hcz : v109.heap.size + 1 = vc.heap.size := by rw [hvc, World.size_alloc]
                have EVC : Hid (v109.alloc (.cells #[.int .u8 c.k, .int .i64 c.n, .string c.s, .slice h109.lo c.ls.length h109.lc, .slice h109.to c.ts.length h109.tc] 25) = vc) := Lib.hid hvc.symm
                rw [← hvc] at HB_110 XT_110 XC_110 IC_110
                clear hvc
                go_upto_region 17 with fail
                rw [EVC.out]
                clear EVC
                clear cT0 cT1 cT2 cT3 cT4 lT
                obtain ⟨cT0, cT1, cT2, cT3, cT4⟩ := five_cells (show vc.heap[w.heap.size]? = some (.cells #[.int .u8 t.k, .int .i64 t.n, .string t.s, .slice ht.lo t.ls.length ht.lc, .slice ht.to t.ts.length ht.tc] 25) from XT_110.out)
                have lT : w.heap.size < vc.heap.size := (Array.getElem?_eq_some_iff.1 XT_110.out).1
                obtain ⟨cC0, cC1, cC2, cC3, cC4⟩ := five_cells (show vc.heap[v109.heap.size]? = some (.cells #[.int .u8 c.k, .int .i64 c.n, .string c.s, .slice h109.lo c.ls.length h109.lc, .slice h109.to c.ts.length h109.tc] 25) from XC_110.out)
                have lC : v109.heap.size < vc.heap.size := (Array.getElem?_eq_some_iff.1 XC_110.out).1
                go_region_held3 (fun w' => w'.cell? ⟨w.heap.size, 0, none⟩ = some (.int .u8 t.k) ∧ w'.cell? ⟨w.heap.size, 1, none⟩ = some (.int .i64 t.n) ∧ w'.cell? ⟨w.heap.size, 2, none⟩ = some (.string t.s) ∧ w'.cell? ⟨w.heap.size, 3, none⟩ = some (.slice ht.lo t.ls.length ht.lc) ∧ w'.cell? ⟨w.heap.size, 4, none⟩ = some (.slice ht.to t.ts.length ht.tc) ∧ w'.cell? ⟨v109.heap.size, 0, none⟩ = some (.int .u8 c.k) ∧ w'.cell? ⟨v109.heap.size, 1, none⟩ = some (.int .i64 c.n) ∧ w'.cell? ⟨v109.heap.size, 2, none⟩ = some (.string c.s) ∧ w'.cell? ⟨v109.heap.size, 3, none⟩ = some (.slice h109.lo c.ls.length h109.lc) ∧ w'.cell? ⟨v109.heap.size, 4, none⟩ = some (.slice h109.to c.ts.length h109.tc))
                  (go_keep)
                  (first
                    | (go_at_call 42; (with_reducible refine (HRI.out _ (Trm.go HB_110.out (Below.refl _ _).drew)).mono ?_); rintro e w3 ⟨hd, rfl, fD, bw⟩; have HB3 := Lib.hid (show Below vc.heap.size vc w3 from Lvl.undrew bw); have HD3 := Lib.hid fD.here; clear bw fD; obtain ⟨cT0, cT1, cT2, cT3, cT4⟩ := five_cells (show w3.heap[w.heap.size]? = some (.cells #[.int .u8 t.k, .int .i64 t.n, .string t.s, .slice ht.lo t.ls.length ht.lc, .slice ht.to t.ts.length ht.tc] 25) from Lvl.keep HB3.out XT_110.out); obtain ⟨cC0, cC1, cC2, cC3, cC4⟩ := five_cells (show w3.heap[v109.heap.size]? = some (.cells #[.int .u8 c.k, .int .i64 c.n, .string c.s, .slice h109.lo c.ls.length h109.lc, .slice h109.to c.ts.length h109.tc] 25) from Lvl.keep HB3.out XC_110.out); dsimp only [Tm.val, Tm.vals])
                    | (go_at_call 37; (with_reducible refine (HT2.out _ _ _ (carry IC_110.out HB3.out) HD3.out).mono ?_); rintro e w4 ⟨rfl, bw⟩; have HB4 := Lib.hid (Trm.go HB3.out bw); clear bw; obtain ⟨cT0, cT1, cT2, cT3, cT4⟩ := five_cells (show w4.heap[w.heap.size]? = some (.cells #[.int .u8 t.k, .int .i64 t.n, .string t.s, .slice ht.lo t.ls.length ht.lc, .slice ht.to t.ts.length ht.tc] 25) from Lvl.keep HB4.out XT_110.out); obtain ⟨cC0, cC1, cC2, cC3, cC4⟩ := five_cells (show w4.heap[v109.heap.size]? = some (.cells #[.int .u8 c.k, .int .i64 c.n, .string c.s, .slice h109.lo c.ls.length h109.lc, .slice h109.to c.ts.length h109.tc] 25) from Lvl.keep HB4.out XC_110.out))
                    | (go_at_call 32; (with_reducible refine (sub_works_any _).mono ?_); rintro e w5 ⟨rfl, bw⟩; have HB5 := Lib.hid (Trm.go HB4.out bw); clear bw; obtain ⟨cT0, cT1, cT2, cT3, cT4⟩ := five_cells (show w5.heap[w.heap.size]? = some (.cells #[.int .u8 t.k, .int .i64 t.n, .string t.s, .slice ht.lo t.ls.length ht.lc, .slice ht.to t.ts.length ht.tc] 25) from Lvl.keep HB5.out XT_110.out); obtain ⟨cC0, cC1, cC2, cC3, cC4⟩ := five_cells (show w5.heap[v109.heap.size]? = some (.cells #[.int .u8 c.k, .int .i64 c.n, .string c.s, .slice h109.lo c.ls.length h109.lc, .slice h109.to c.ts.length h109.tc] 25) from Lvl.keep HB5.out XC_110.out)))
                go_wp2_with fail
                go_ret
                exact ⟨rfl, Trm.go HB_110.out HB5.out⟩
end Go.Proofs.Ytijdlihodpodjaa
