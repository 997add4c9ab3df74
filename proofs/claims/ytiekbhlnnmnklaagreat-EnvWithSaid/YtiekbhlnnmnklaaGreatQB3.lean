/-
  term.fits.
-/
import Derived.Test.YtiekbhlnnmnklaaGreatQB2
import Derived.Laws.EntriesVeiled
import Derived.Test.YtiekbhlnnmnklaaGreatQB1
import Derived.OwnWalk
import Derived.Deep.AppendLies
import Derived.Deep.Cut
import Derived.Deep.RegionHeld3
import Derived.Deep.WholeRow
import Derived.Maps.OwnSet
import Derived.StringKeys
namespace Go.Proofs.YtiekbhlnnmnklaaGreat
open Go.RowKit Go.Shelf Lvl Trm

/-- term.fits in its own words. -/
def Trm.Tm.fits (t : Tm) : Bool :=
  isKind t.k && decide (0 ≤ t.n) && decide (t.n ≤ (kd t.k).top) && decide ((t.ts.length : Int) = (kd t.k).terms) && decide ((kd t.k).least ≤ (t.ls.length : Int)) && decide ((t.ls.length : Int) ≤ (kd t.k).most) &&
  (if (kd t.k).named = true then nameOk t.s else t.s.toList.isEmpty) && t.ls.all Lv.may

theorem Trm.drew_below (B : Nat) (w : World) (n : Nat) : Below B w (w.drewN n) := by
  refine ⟨?_, ?_, ?_, ?_, ?_⟩ <;> simp [World.drewN]
theorem Trm.fits_node (t : Tm) : t.fits = t.node := by
  unfold Tm.fits Tm.node
  by_cases h : t.k = 1 ∨ t.k = 2 ∨ t.k = 3 ∨ t.k = 4 ∨ t.k = 5 ∨ t.k = 6 ∨ t.k = 7 ∨ t.k = 8
  · rw [empty_iff]
    generalize t.ls.all Lv.may = A
    generalize nameOk t.s = B
    rcases h with h | h | h | h | h | h | h | h <;> rw [h, Bool.eq_iff_iff] <;> simp [kd, isKind, kids] <;> constructor <;> (intro hh; (try refine ⟨⟨⟨⟨⟨⟨?_, ?_⟩, ?_⟩, ?_⟩, ?_⟩, ?_⟩, ?_⟩); all_goals first | omega | (simp_all; try omega) | simp_all)
  · have h1 : isKind t.k = false := by unfold isKind; simp; omega
    have h2 : ¬ 0 ≤ kids t.k := by
      unfold kids
      rw [if_neg (by omega), if_neg (by omega), if_neg (by omega), if_neg (by omega)]
      omega
    simp [h1, h2]

def Trm.FitRel (w : World) (ls : List Lv) (i : Value) (wr : World) : Prop :=
  ∃ k : Nat, i = .int .i64 k ∧ k ≤ ls.length ∧ (ls.take k).all Lv.may = true ∧ Below w.heap.size w wr

set_option maxRecDepth 100000 in
set_option maxHeartbeats 8000000 in
theorem fits_any (t : Tm) (b o : Nat) (w : World) (hat : TAt w.heap.size w b o t) :
    Calls Tryz.prog 181 #[.pointer (some ⟨b, o, none⟩)] w fun e w' => e = .returned (.bool t.node) ∧ Below w.heap.size w w' := by
  rw [← fits_node]
  obtain ⟨G, hG⟩ : ∃ G, G = t.fits := ⟨_, rfl⟩
  rw [← hG]
  have HG := Lib.hid hG
  clear hG
  obtain ⟨hb, h, hc, hin⟩ := hat
  have hfit := hin.fit
  have hls := hfit.ls
  have hts := hfit.ts
  have hss := hfit.s
  clear hfit
  have HIN := Lib.hid hin
  have HC := Lib.hid hc
  clear hin
  obtain ⟨c0, c1, c2, c3, c4⟩ := hc
  have HN : Hid (t.fits = false → false = G) := Lib.hid (fun hh => by rw [HG.out, hh])
  have HF : Hid (t.fits = (isKind t.k && decide (0 ≤ t.n) && decide (t.n ≤ (kd t.k).top) && decide ((t.ts.length : Int) = (kd t.k).terms) && decide ((kd t.k).least ≤ (t.ls.length : Int)) && decide ((t.ls.length : Int) ≤ (kd t.k).most) &&
    (if (kd t.k).named = true then nameOk t.s else t.s.toList.isEmpty) && t.ls.all Lv.may)) := Lib.hid rfl
  have HK := Lib.hid (kindOf_any t.k w)
  unfold Kd.val Kd.vals at HK
  generalize kd t.k = a at HF HK
  generalize isKind t.k = is at HF HK
  have ht : ∀ W, Below w.heap.size w W → TCells W b o t h := fun W hW => HC.out.below hW hb
  have HT := Lib.hid ht
  clear ht
  cases is
  · have HF1 := Lib.hid (HN.out (by rw [HF.out]; simp))
    clear HN HF
    go_enter Tryz.func181, Tryz.ntmps181
    go_wp2_with fail
    refine HK.out.mono ?_
    rintro e w1 ⟨rfl, b1⟩
    obtain ⟨d0, d1, d2, d3, d4⟩ := HT.out _ b1
    have hz := b1.size
    have hb2 : b < w1.heap.size := by omega
    have HB := Lib.hid b1
    clear b1 c0 c1 c2 c3 c4
    go_wp2_with fail
    go_quiet (fail)
    go_wp2_with fail
    go_ret
    exact ⟨ret_bool HF1.out, HB.out.trans ((((Below.refl w1.heap.size w1).alloc (Nat.le_refl _) _).trans (drew_below _ _ _)).mono hz)⟩
  · by_cases hq0 : t.n < 0
    · have d0x : decide (t.n < 0) = true := by simpa using hq0
      have HF1 := Lib.hid (HN.out (by rw [HF.out]; simp [show ¬ 0 ≤ t.n by omega]))
      clear hq0 HN HF
      go_enter Tryz.func181, Tryz.ntmps181
      go_wp2_with fail
      refine HK.out.mono ?_
      rintro e w1 ⟨rfl, b1⟩
      obtain ⟨d0, d1, d2, d3, d4⟩ := HT.out _ b1
      have hz := b1.size
      have hb2 : b < w1.heap.size := by omega
      have HB := Lib.hid b1
      clear b1 c0 c1 c2 c3 c4
      go_wp2_with fail
      go_quiet (fail)
      go_wp2_with fail
      go_ret
      exact ⟨ret_bool HF1.out, HB.out.trans ((((Below.refl w1.heap.size w1).alloc (Nat.le_refl _) _).trans (drew_below _ _ _)).mono hz)⟩
    · have d0x : decide (t.n < 0) = false := by simpa using hq0
      by_cases hq1 : a.top < t.n
      · have d1x : decide (a.top < t.n) = true := by simpa using hq1
        have HF1 := Lib.hid (HN.out (by rw [HF.out]; simp [show ¬ t.n ≤ a.top by omega]))
        clear hq1 HN HF
        go_enter Tryz.func181, Tryz.ntmps181
        go_wp2_with fail
        refine HK.out.mono ?_
        rintro e w1 ⟨rfl, b1⟩
        obtain ⟨d0, d1, d2, d3, d4⟩ := HT.out _ b1
        have hz := b1.size
        have hb2 : b < w1.heap.size := by omega
        have HB := Lib.hid b1
        clear b1 c0 c1 c2 c3 c4
        go_wp2_with fail
        go_quiet (fail)
        go_wp2_with fail
        go_ret
        exact ⟨ret_bool HF1.out, HB.out.trans ((((Below.refl w1.heap.size w1).alloc (Nat.le_refl _) _).trans (drew_below _ _ _)).mono hz)⟩
      · have d1x : decide (a.top < t.n) = false := by simpa using hq1
        by_cases hq2 : ¬ (t.ts.length : Int) = a.terms
        · have d2x : ((t.ts.length : Int) != a.terms) = true := by simpa using hq2
          have HF1 := Lib.hid (HN.out (by rw [HF.out]; simp [hq2]))
          clear hq2 HN HF
          go_enter Tryz.func181, Tryz.ntmps181
          go_wp2_with fail
          refine HK.out.mono ?_
          rintro e w1 ⟨rfl, b1⟩
          obtain ⟨d0, d1, d2, d3, d4⟩ := HT.out _ b1
          have hz := b1.size
          have hb2 : b < w1.heap.size := by omega
          have HB := Lib.hid b1
          clear b1 c0 c1 c2 c3 c4
          go_wp2_with fail
          go_quiet (fail)
          go_wp2_with fail
          go_ret
          exact ⟨ret_bool HF1.out, HB.out.trans ((((Below.refl w1.heap.size w1).alloc (Nat.le_refl _) _).trans (drew_below _ _ _)).mono hz)⟩
        · have d2x : ((t.ts.length : Int) != a.terms) = false := by simpa using hq2
          by_cases hq3 : (t.ls.length : Int) < a.least
          · have d3x : decide ((t.ls.length : Int) < a.least) = true := by simpa using hq3
            have HF1 := Lib.hid (HN.out (by rw [HF.out]; simp [show ¬ a.least ≤ (t.ls.length : Int) by omega]))
            clear hq3 HN HF
            go_enter Tryz.func181, Tryz.ntmps181
            go_wp2_with fail
            refine HK.out.mono ?_
            rintro e w1 ⟨rfl, b1⟩
            obtain ⟨d0, d1, d2, d3, d4⟩ := HT.out _ b1
            have hz := b1.size
            have hb2 : b < w1.heap.size := by omega
            have HB := Lib.hid b1
            clear b1 c0 c1 c2 c3 c4
            go_wp2_with fail
            go_quiet (fail)
            go_wp2_with fail
            go_ret
            exact ⟨ret_bool HF1.out, HB.out.trans ((((Below.refl w1.heap.size w1).alloc (Nat.le_refl _) _).trans (drew_below _ _ _)).mono hz)⟩
          · have d3x : decide ((t.ls.length : Int) < a.least) = false := by simpa using hq3
            by_cases hq4 : a.most < (t.ls.length : Int)
            · have d4x : decide (a.most < (t.ls.length : Int)) = true := by simpa using hq4
              have HF1 := Lib.hid (HN.out (by rw [HF.out]; simp [show ¬ (t.ls.length : Int) ≤ a.most by omega]))
              clear hq4 HN HF
              go_enter Tryz.func181, Tryz.ntmps181
              go_wp2_with fail
              refine HK.out.mono ?_
              rintro e w1 ⟨rfl, b1⟩
              obtain ⟨d0, d1, d2, d3, d4⟩ := HT.out _ b1
              have hz := b1.size
              have hb2 : b < w1.heap.size := by omega
              have HB := Lib.hid b1
              clear b1 c0 c1 c2 c3 c4
              go_wp2_with fail
              go_quiet (fail)
              go_wp2_with fail
              go_ret
              exact ⟨ret_bool HF1.out, HB.out.trans ((((Below.refl w1.heap.size w1).alloc (Nat.le_refl _) _).trans (drew_below _ _ _)).mono hz)⟩
            · have d4x : decide (a.most < (t.ls.length : Int)) = false := by simpa using hq4
              have HR : Hid (t.fits = ((if a.named = true then nameOk t.s else t.s.toList.isEmpty) && t.ls.all Lv.may)) := Lib.hid (by
                rw [HF.out]
                have e2 := Classical.not_not.1 hq2
                simp only [decide_eq_true (show 0 ≤ t.n by omega), decide_eq_true (show t.n ≤ a.top by omega), decide_eq_true e2, decide_eq_true (show a.least ≤ (t.ls.length : Int) by omega), decide_eq_true (show (t.ls.length : Int) ≤ a.most by omega), Bool.true_and])
              clear HF hq0 hq1 hq2 hq3 hq4
              cases hnm : a.named
              · cases hem : t.s.toList.isEmpty
                · rw [hnm] at HR HK
                  clear hnm
                  have hem1 : ¬ t.s.toList = [] := by simpa using hem
                  have HF1 := Lib.hid (HN.out (by rw [HR.out]; simp [hem1]))
                  go_enter Tryz.func181, Tryz.ntmps181
                  go_wp2_with fail
                  refine HK.out.mono ?_
                  rintro e w1 ⟨rfl, b1⟩
                  obtain ⟨d0, d1, d2, d3, d4⟩ := HT.out _ b1
                  have hz := b1.size
                  have hb2 : b < w1.heap.size := by omega
                  have HB := Lib.hid b1
                  clear b1 c0 c1 c2 c3 c4
                  go_wp2_with fail
                  go_quiet (fail)
                  go_wp2_with fail
                  go_ret
                  exact ⟨ret_bool HF1.out, HB.out.trans ((((Below.refl w1.heap.size w1).alloc (Nat.le_refl _) _).trans (drew_below _ _ _)).mono hz)⟩
                · rw [hnm] at HR HK
                  clear hnm
                  have hem1 : t.s.toList = [] := by simpa using hem
                  have HS : Hid ((if false = true then nameOk t.s else t.s.toList.isEmpty) = true) := Lib.hid (by simp [hem1])
                  go_enter Tryz.func181, Tryz.ntmps181
                  go_wp2_with fail
                  refine HK.out.mono ?_
                  rintro e w1 ⟨rfl, b1⟩
                  obtain ⟨d0, d1, d2, d3, d4⟩ := HT.out _ b1
                  have hz := b1.size
                  have hb2 : b < w1.heap.size := by omega
                  have HB := Lib.hid b1
                  clear b1 c0 c1 c2 c3 c4
                  go_wp2_with fail
                  go_quiet (fail)
                  go_wp2_with fail
                  go_loopw [90] (fun i wr => FitRel w t.ls i wr) (fun i _ => t.ls.length - (intOf i).toNat)
                  case atStart => exact ⟨0, rfl, by omega, rfl, HB.out.trans ((((Below.refl w1.heap.size w1).alloc (Nat.le_refl _) _).trans (drew_below _ _ _)).mono hz)⟩
                  case round =>
                    clear d0 d1 d2 d3 d4
                    obtain ⟨k, rfl, hk, hall, hbel⟩ := hrel
                    have HB2 := Lib.hid hbel
                    have HA := Lib.hid hall
                    clear hbel hall
                    by_cases hlt : k < t.ls.length
                    · obtain ⟨b2, off, hao, l0, l1, l2, l3, l4⟩ := (Trm.LRow.low HIN.out.levels (Tm.In_iff.1 HIN.out).2.2.1 HB2.out).place k hlt
                      have HAO := Lib.hid hao
                      rw [hao]
                      clear hao
                      obtain ⟨x, hx⟩ : ∃ x, x = t.ls[k] := ⟨_, rfl⟩
                      rw [← hx] at l0 l1 l2 l3 l4
                      have hmay := fun w => may_any x w
                      have HNX : Hid (x.may = false → false = G) := Lib.hid (fun hf => HN.out (by
                        have : t.ls.all Lv.may = false := Lvl.all_take_no hlt (by rw [← hx]; exact hf)
                        rw [HR.out, this, Bool.and_false]))
                      have HY : Hid (x.may = true → (t.ls.take (k + 1)).all Lv.may = true) := Lib.hid (fun hf => Lvl.all_take_yes hlt HA.out (by rw [← hx]; exact hf))
                      obtain ⟨r, hr⟩ : ∃ r, r = x.may := ⟨_, rfl⟩
                      rw [← hr] at hmay HNX HY
                      have HM := Lib.hid hmay
                      clear hmay hr hx
                      cases r
                      · go_wp2_with fail
                        unfold Lv.val at HM
                        refine (HM.out _).mono ?_
                        rintro e w3 ⟨rfl, b3⟩
                        have HB3 := Lib.hid ((HB2.out.alloc HB2.out.size x.box).trans (b3.mono (by have := HB2.out.size; simp; omega)))
                        clear b3
                        go_wp2_with fail
                        go_ret
                        exact ⟨ret_bool (HNX.out (by trivial)), HB3.out⟩
                      · go_wp2_with fail
                        unfold Lv.val at HM
                        refine (HM.out _).mono ?_
                        rintro e w3 ⟨rfl, b3⟩
                        have HB3 := Lib.hid ((HB2.out.alloc HB2.out.size x.box).trans (b3.mono (by have := HB2.out.size; simp; omega)))
                        clear b3
                        go_wp2_with fail
                        go_roundw
                        case rel => exact ⟨k + 1, by go_num, by omega, HY.out (by trivial), HB3.out⟩
                        case measure => simp [intOf]; omega
                    · have HE : Hid (true = G) := Lib.hid (by
                        have hall := HA.out
                        rw [List.take_of_length_le (by omega)] at hall
                        rw [HG.out, HR.out, hall, Bool.and_true, HS.out])
                      go_wp2_with fail
                      go_ret
                      exact ⟨ret_bool HE.out, HB2.out⟩
              · cases hem : t.s.toList.isEmpty
                · cases hok : nameOk t.s
                  · rw [hnm] at HR HK
                    clear hnm
                    have HNAME : Hid (∀ w, Calls Tryz.prog 101 #[.string t.s] w fun e w' => e = .returned (.bool false) ∧ w = w') := Lib.hid (fun w => by rw [← hok]; exact Name_any t.s w hss)
                    have hem1 : ¬ t.s.toList = [] := by simpa using hem
                    have HF1 := Lib.hid (HN.out (by rw [HR.out]; simp [hok]))
                    clear hok
                    go_enter Tryz.func181, Tryz.ntmps181
                    go_wp2_with fail
                    refine HK.out.mono ?_
                    rintro e w1 ⟨rfl, b1⟩
                    obtain ⟨d0, d1, d2, d3, d4⟩ := HT.out _ b1
                    have hz := b1.size
                    have hb2 : b < w1.heap.size := by omega
                    have HB := Lib.hid b1
                    clear b1 c0 c1 c2 c3 c4
                    go_wp2_with fail
                    go_quiet (fail)
                    go_wp2_with (go_at_call 101; refine (HNAME.out _).mono ?_; rintro e w' ⟨rfl, rfl⟩)
                    go_ret
                    exact ⟨ret_bool HF1.out, HB.out.trans ((((Below.refl w1.heap.size w1).alloc (Nat.le_refl _) _).trans (drew_below _ _ _)).mono hz)⟩
                  · rw [hnm] at HR HK
                    clear hnm
                    have HNAME : Hid (∀ w, Calls Tryz.prog 101 #[.string t.s] w fun e w' => e = .returned (.bool true) ∧ w = w') := Lib.hid (fun w => by rw [← hok]; exact Name_any t.s w hss)
                    have hem1 : ¬ t.s.toList = [] := by simpa using hem
                    have HS : Hid ((if true = true then nameOk t.s else t.s.toList.isEmpty) = true) := Lib.hid (by simp [hok])
                    clear hok
                    go_enter Tryz.func181, Tryz.ntmps181
                    go_wp2_with fail
                    refine HK.out.mono ?_
                    rintro e w1 ⟨rfl, b1⟩
                    obtain ⟨d0, d1, d2, d3, d4⟩ := HT.out _ b1
                    have hz := b1.size
                    have hb2 : b < w1.heap.size := by omega
                    have HB := Lib.hid b1
                    clear b1 c0 c1 c2 c3 c4
                    go_wp2_with fail
                    go_quiet (fail)
                    go_wp2_with (go_at_call 101; refine (HNAME.out _).mono ?_; rintro e w' ⟨rfl, rfl⟩)
                    go_loopw [90] (fun i wr => FitRel w t.ls i wr) (fun i _ => t.ls.length - (intOf i).toNat)
                    case atStart => exact ⟨0, rfl, by omega, rfl, HB.out.trans ((((Below.refl w1.heap.size w1).alloc (Nat.le_refl _) _).trans (drew_below _ _ _)).mono hz)⟩
                    case round =>
                      clear d0 d1 d2 d3 d4
                      obtain ⟨k, rfl, hk, hall, hbel⟩ := hrel
                      have HB2 := Lib.hid hbel
                      have HA := Lib.hid hall
                      clear hbel hall
                      by_cases hlt : k < t.ls.length
                      · obtain ⟨b2, off, hao, l0, l1, l2, l3, l4⟩ := (Trm.LRow.low HIN.out.levels (Tm.In_iff.1 HIN.out).2.2.1 HB2.out).place k hlt
                        have HAO := Lib.hid hao
                        rw [hao]
                        clear hao
                        obtain ⟨x, hx⟩ : ∃ x, x = t.ls[k] := ⟨_, rfl⟩
                        rw [← hx] at l0 l1 l2 l3 l4
                        have hmay := fun w => may_any x w
                        have HNX : Hid (x.may = false → false = G) := Lib.hid (fun hf => HN.out (by
                          have : t.ls.all Lv.may = false := Lvl.all_take_no hlt (by rw [← hx]; exact hf)
                          rw [HR.out, this, Bool.and_false]))
                        have HY : Hid (x.may = true → (t.ls.take (k + 1)).all Lv.may = true) := Lib.hid (fun hf => Lvl.all_take_yes hlt HA.out (by rw [← hx]; exact hf))
                        obtain ⟨r, hr⟩ : ∃ r, r = x.may := ⟨_, rfl⟩
                        rw [← hr] at hmay HNX HY
                        have HM := Lib.hid hmay
                        clear hmay hr hx
                        cases r
                        · go_wp2_with fail
                          unfold Lv.val at HM
                          refine (HM.out _).mono ?_
                          rintro e w3 ⟨rfl, b3⟩
                          have HB3 := Lib.hid ((HB2.out.alloc HB2.out.size x.box).trans (b3.mono (by have := HB2.out.size; simp; omega)))
                          clear b3
                          go_wp2_with fail
                          go_ret
                          exact ⟨ret_bool (HNX.out (by trivial)), HB3.out⟩
                        · go_wp2_with fail
                          unfold Lv.val at HM
                          refine (HM.out _).mono ?_
                          rintro e w3 ⟨rfl, b3⟩
                          have HB3 := Lib.hid ((HB2.out.alloc HB2.out.size x.box).trans (b3.mono (by have := HB2.out.size; simp; omega)))
                          clear b3
                          go_wp2_with fail
                          go_roundw
                          case rel => exact ⟨k + 1, by go_num, by omega, HY.out (by trivial), HB3.out⟩
                          case measure => simp [intOf]; omega
                      · have HE : Hid (true = G) := Lib.hid (by
                          have hall := HA.out
                          rw [List.take_of_length_le (by omega)] at hall
                          rw [HG.out, HR.out, hall, Bool.and_true, HS.out])
                        go_wp2_with fail
                        go_ret
                        exact ⟨ret_bool HE.out, HB2.out⟩
                · rw [hnm] at HR HK
                  clear hnm
                  have HNAME : Hid (∀ w, Calls Tryz.prog 101 #[.string t.s] w fun e w' => e = .returned (.bool false) ∧ w = w') := Lib.hid (fun w => by rw [← nameOk_no (Or.inl (by have := hem; rw [empty_iff] at this; simpa using this))]; exact Name_any t.s w hss)
                  have hem1 : t.s.toList = [] := by simpa using hem
                  have hok : nameOk t.s = false := nameOk_no (Or.inl (by have := hem; rw [empty_iff] at this; simpa using this))
                  have HF1 := Lib.hid (HN.out (by rw [HR.out]; simp [hok]))
                  clear hok
                  go_enter Tryz.func181, Tryz.ntmps181
                  go_wp2_with fail
                  refine HK.out.mono ?_
                  rintro e w1 ⟨rfl, b1⟩
                  obtain ⟨d0, d1, d2, d3, d4⟩ := HT.out _ b1
                  have hz := b1.size
                  have hb2 : b < w1.heap.size := by omega
                  have HB := Lib.hid b1
                  clear b1 c0 c1 c2 c3 c4
                  go_wp2_with fail
                  go_quiet (fail)
                  go_wp2_with (go_at_call 101; refine (HNAME.out _).mono ?_; rintro e w' ⟨rfl, rfl⟩)
                  go_ret
                  exact ⟨ret_bool HF1.out, HB.out.trans ((((Below.refl w1.heap.size w1).alloc (Nat.le_refl _) _).trans (drew_below _ _ _)).mono hz)⟩
end Go.Proofs.YtiekbhlnnmnklaaGreat



namespace Go.Proofs.YtiekbhlnnmnklaaGreat
open Go.RowKit Go.Shelf Lvl Trm

def Trm.badMay (x : Tm) : Bool := !x.node

end Go.Proofs.YtiekbhlnnmnklaaGreat



namespace Go.Proofs.YtiekbhlnnmnklaaGreat
open Go.RowKit Go.Shelf Lvl Trm

set_option maxRecDepth 100000 in
set_option maxHeartbeats 1000000 in
theorem walk_any {σ : Type} {B m C : Nat} {f : FuncId} {see : σ → Tm → Int → Int → σ × Bool} {Inv : σ → World → Prop} {Ok : Tm → Int → Prop} {Good : σ → Prop} (S : Sees B m C f see Inv Ok Good) (t : Tm)
    (st : σ) (b o : Nat) (w : World) (hgood : Good st) (hinv : Inv st w) (hok : Ok t 1) (hat : RAt B m w b o t) (hB : B ≤ w.heap.size) (hm : m < w.heap.size) :
      Calls Tryz.prog 121 #[.pointer (some ⟨b, o, none⟩), fnv f C] w fun e w' => e = .returned (.bool (t.walk see st 1 0).2) ∧ Inv (t.walk see st 1 0).1 w' ∧ Ran m w w' := by
  have HV := Lib.hid (fun (W : World) (h1 : Below w.heap.size w W) (h2 : W.heap[w.heap.size]? = some (.cells #[fnv f C] 165)) (h3 : W.heap[w.heap.size + 1]? = some (.cells #[.func (.func 173) #[] #[.pointer (some ⟨w.heap.size, 0, none⟩), .pointer (some ⟨w.heap.size + 1, 0, none⟩)]] 165)) =>
    visit_any (Bs := w.heap.size) (Bv := w.heap.size + 1) S (by omega) (by omega) t st b o 1 0 W hgood (S.keep _ _ _ hinv h1) hok (by omega) (by omega) (hat.ran (Ran.of_below h1) S.low hB) (by have := h1.size; omega) (by have := h1.size; omega) h2 h3)
  generalize t.walk see st 1 0 = R at HV ⊢
  clear hinv hok hat S hgood
  go_enter Tryz.func121, Tryz.ntmps121
  go_wp2_with fail
  refine (HV.out _ ?h1 ?h2 ?h3).mono ?_
  case h1 => exact below_two _ _ _
  case h2 => exact new1of2 _ _ _
  case h3 => exact new2 _ _ _
  rintro e w1 ⟨rfl, i1, g1⟩
  have HI := Lib.hid i1
  have HR := Lib.hid ((Ran.of_below (below_two w _ _)).trans g1)
  clear i1 g1
  go_wp2_with fail
  go_ret
  exact ⟨rfl, HI.out, HR.out⟩

/-- What Size asks of each node: it counts. -/
def Trm.seeSize (n : Int) (t : Tm) (d _u : Int) : Int × Bool := (n + 1, decide (n + 1 ≤ 65536) && decide (d ≤ 4096) && t.node)

set_option maxRecDepth 100000 in
set_option maxHeartbeats 2000000 in
theorem size1_any (t : Tm) (n d u : Int) (b o m : Nat) (w : World) (hn0 : 0 ≤ n) (hn1 : n ≤ 65536) (hm : w.heap[m]? = some (.cells #[.int .i64 n] 3)) (hat : RAt m m w b o t) :
    Calls Tryz.prog 180 #[.pointer (some ⟨b, o, none⟩), .int .i64 d, .int .i64 u, .pointer (some ⟨m, 0, none⟩)] w fun e w' => e = .returned (.bool (seeSize n t d u).2) ∧ w'.heap[m]? = some (.cells #[.int .i64 (n + 1)] 3) ∧ Ran m w w' := by
  have hc := one_cell hm
  have hfr : w.frozen? ⟨m, 0, none⟩ = false := by simp [World.frozen?, hm]
  have hM : (w.setCell ⟨m, 0, none⟩ (.int .i64 (n + 1))).heap[m]? = some (.cells #[.int .i64 (n + 1)] 3) := by simp [World.setCell, Array.getElem?_modify, hm]
  have hR : Ran m w (w.setCell ⟨m, 0, none⟩ (.int .i64 (n + 1))) := ⟨rfl, rfl, rfl, by simp [World.setCell], fun k _ hk => Below.heap_setCell _ _ _ _ hk⟩
  have hlt := (Array.getElem?_eq_some_iff.1 hm).1
  have HA : Hid (TAt (w.setCell ⟨m, 0, none⟩ (.int .i64 (n + 1))).heap.size (w.setCell ⟨m, 0, none⟩ (.int .i64 (n + 1))) b o t) := Lib.hid (by
    obtain ⟨_, hb1, hd1, hc1, hi1⟩ := hat.ran hR (Nat.le_refl m) (by omega)
    exact ⟨hb1, hd1, hc1, Tm.In.mono (by simp [World.setCell]; omega) _ _ hi1⟩)
  have HM := Lib.hid hM
  have HR := Lib.hid hR
  unfold seeSize
  clear hM hR hat hm
  by_cases h1 : n + 1 ≤ 65536
  · by_cases h2 : d ≤ 4096
    · simp only [decide_eq_true h1, decide_eq_true h2, Bool.true_and]
      have HF := Lib.hid (fits_any t b o _ HA.out)
      generalize t.node = r at HF ⊢
      clear HA
      go_enter Tryz.func180, Tryz.ntmps180
      go_wp2_with fail
      refine HF.out.mono ?_
      rintro e w1 ⟨rfl, b1⟩
      have HM1 := Lib.hid (Lvl.keep b1 HM.out)
      have HR1 := Lib.hid (HR.out.trans (Ran.of_below b1))
      clear b1
      go_wp2_with fail
      go_ret
      exact ⟨rfl, HM1.out, HR1.out⟩
    · simp only [decide_eq_true h1, decide_eq_false h2, Bool.true_and, Bool.false_and]
      go_enter Tryz.func180, Tryz.ntmps180
      go_wp2_with fail
      go_ret
      exact ⟨rfl, HM.out, HR.out⟩
  · simp only [decide_eq_false h1, Bool.false_and]
    go_enter Tryz.func180, Tryz.ntmps180
    go_wp2_with fail
    go_ret
    exact ⟨rfl, HM.out, HR.out⟩

theorem Trm.sees_size {B m : Nat} (h : B ≤ m) : Sees B m m 180 seeSize (fun n w => w.heap[m]? = some (.cells #[.int .i64 n] 3)) (fun _ d => 0 ≤ d ∧ d ≤ 4097) (fun n => 0 ≤ n ∧ n ≤ 65536) where
  calls st t b o d u w hg hi ho hu0 hud hat hB := size1_any t st d u b o m w hg.1 hg.2 hi (by obtain ⟨h1, h2, h3, h4, h5⟩ := hat; exact ⟨h1, h2, h3, h4, Tm.In.mono h _ _ h5⟩)
  good st t d u hg ho hr := by
    simp only [seeSize, Bool.and_eq_true, decide_eq_true_eq] at hr ⊢
    omega
  bound t d ho := by omega
  down st t d u ho hr x hx := by
    simp only [seeSize, Bool.and_eq_true, decide_eq_true_eq] at hr
    omega
  keep st w w' hi hb := Lvl.keep hb hi
  low := h
  enter args w := by kernel_rfl

mutual
/-- The walk that counts says how many nodes are left. -/
theorem Trm.size_left : ∀ (t : Tm) (n d u : Int), ((t.walk seeSize n d u).2 = true → 0 ≤ t.left badMay (65536 - n) (4097 - d) ∧ (t.walk seeSize n d u).1 = 65536 - t.left badMay (65536 - n) (4097 - d)) ∧ ((t.walk seeSize n d u).2 = false → t.left badMay (65536 - n) (4097 - d) = -1)
  | .mk k m s ls ts, n, d, u => by
    rw [Tm.walk, Tm.left]
    by_cases h1 : n + 1 ≤ 65536
    · by_cases h2 : d ≤ 4096
      · cases h3 : (Tm.mk k m s ls ts).node
        · have hs : (seeSize n (.mk k m s ls ts) d u).2 = false := by simp [seeSize, h3]
          rw [hs, if_neg (by simp)]
          rw [if_pos (Or.inr (Or.inr (by simp [badMay, h3])))]
          simp
        · have hs : (seeSize n (.mk k m s ls ts) d u) = (n + 1, true) := by simp [seeSize, h1, h2, h3]
          rw [hs, if_pos rfl, if_neg (by rintro (h | h | h) <;> first | omega | (simp [badMay, h3] at h))]
          have := Trm.sizeL_left k ts 0 (n + 1) (d + 1) u (by omega)
          rwa [show 65536 - (n + 1) = 65536 - n - 1 by omega, show 4097 - (d + 1) = 4097 - d - 1 by omega] at this
      · have hs : (seeSize n (.mk k m s ls ts) d u).2 = false := by simp [seeSize, h2]
        rw [hs, if_neg (by simp), if_pos (Or.inr (Or.inl (by omega)))]
        simp
    · have hs : (seeSize n (.mk k m s ls ts) d u).2 = false := by simp [seeSize, h1]
      rw [hs, if_neg (by simp), if_pos (Or.inl (by omega))]
      simp
theorem Trm.sizeL_left (k : Int) : ∀ (ts : List Tm) (i : Nat) (n d u : Int), n ≤ 65536 → ((walkL seeSize k ts i n d u).2 = true → 0 ≤ leftL badMay ts (65536 - n) (4097 - d) ∧ (walkL seeSize k ts i n d u).1 = 65536 - leftL badMay ts (65536 - n) (4097 - d)) ∧ ((walkL seeSize k ts i n d u).2 = false → leftL badMay ts (65536 - n) (4097 - d) = -1)
  | [], i, n, d, u, hn => by
    rw [walkL, leftL]
    refine ⟨fun _ => ⟨by omega, by omega⟩, fun h => by simp at h⟩
  | t :: r, i, n, d, u, hn => by
    rw [walkL, leftL]
    have h := Trm.size_left t n d (under k i u)
    generalize t.walk seeSize n d (under k i u) = W at h
    obtain ⟨n1, ok⟩ := W
    dsimp only at h ⊢
    cases ok
    · rw [if_neg (by simp), if_pos (by have := h.2 rfl; omega)]
      simp
    · have h1 := h.1 rfl
      rw [if_pos rfl, if_neg (by omega)]
      have := Trm.sizeL_left k r (i + 1) n1 d (under k i u) (by omega)
      rwa [show t.left badMay (65536 - n) (4097 - d) = 65536 - n1 by omega]
end
/-- How many nodes a term that may be has; of no other one any. -/
def Trm.Tm.count (t : Tm) : Int := if t.may = true then t.size else 0
theorem Trm.may_walk (t : Tm) : t.may = (t.walk seeSize 0 1 0).2 := by
  have h := size_left t 0 1 0
  have e : t.may = decide (0 ≤ t.left badMay 65536 4096) := rfl
  rw [e]
  cases hw : (t.walk seeSize 0 1 0).2
  · have := h.2 hw
    simp at this
    simp [this]
  · have := (h.1 hw).1
    simpa using this
theorem Trm.count_walk (t : Tm) : t.count = if (t.walk seeSize 0 1 0).2 = true then (t.walk seeSize 0 1 0).1 else 0 := by
  have h := size_left t 0 1 0
  unfold Tm.count
  rw [may_walk]
  cases hw : (t.walk seeSize 0 1 0).2
  · simp
  · rw [if_pos rfl, if_pos rfl]
    obtain ⟨h1, h2⟩ := h.1 hw
    have := t.left_size badMay _ _ h1
    omega

theorem Trm.Tm.In.atBox {t : Tm} {h : Hd} {w : World} (hin : t.In w.heap.size w h) : TAt (w.heap.size + 1) (w.alloc (t.box h)) w.heap.size 0 t :=
  ⟨by omega, h, Tm.cells (World.alloc_heap_new w (t.box h)), Tm.In.mono (by omega) _ _ (Tm.In.below (below_one w (t.box h)) _ _ hin)⟩

set_option maxRecDepth 100000 in
set_option maxHeartbeats 1000000 in
theorem PSize_any (t : Tm) (h : Hd) (w : World) (hin : t.In w.heap.size w h) :
    Calls Tryz.prog 133 #[t.val h] w fun e w' => e = .returned (.int .i64 t.count) ∧ Below w.heap.size w w' := by
  rw [count_walk]
  have HW := Lib.hid (walk_any (sees_size (B := w.heap.size + 1) (m := w.heap.size + 1) (Nat.le_refl _)) t 0 w.heap.size 0 ((w.alloc (t.box h)).alloc (.cells #[.int .i64 0] 3)) (by omega) (new2 _ _ _) (by omega)
    (((Tm.In.atBox hin).below (Below.mono (below_one (w.alloc (t.box h)) _) (by simp))).root (Nat.le_refl _) (by simp)) (by simp) (by simp))
  generalize t.walk seeSize 0 1 0 = R at HW ⊢
  obtain ⟨n, r⟩ := R
  dsimp only at HW ⊢
  clear hin
  unfold Tm.box at HW
  unfold Tm.val
  dsimp only [Tm.vals] at HW ⊢
  cases r
  · rw [if_neg (by simp)]
    go_enter Tryz.func133, Tryz.ntmps133
    go_wp2_with fail
    refine HW.out.mono ?_
    rintro e w1 ⟨rfl, i1, g1⟩
    have HB := Lib.hid ((below_two w _ _).trans (g1.below (B := w.heap.size) (by omega) (by simp; omega)))
    clear i1 g1
    go_wp2_with fail
    go_ret
    exact ⟨rfl, HB.out⟩
  · rw [if_pos rfl]
    go_enter Tryz.func133, Tryz.ntmps133
    go_wp2_with fail
    refine HW.out.mono ?_
    rintro e w1 ⟨rfl, i1, g1⟩
    have HB := Lib.hid ((below_two w _ _).trans (g1.below (B := w.heap.size) (by omega) (by simp; omega)))
    have hc := one_cell i1
    clear i1 g1
    go_wp2_with fail
    go_ret
    exact ⟨rfl, HB.out⟩

theorem Trm.count_ge (t : Tm) : 0 ≤ t.count ∧ t.count ≤ 65536 := by
  have hs := t.size_pos
  unfold Tm.count
  split
  · rename_i hm
    have hm' : 0 ≤ t.left badMay 65536 4096 := of_decide_eq_true (show decide (0 ≤ t.left badMay 65536 4096) = true from hm)
    have := t.left_size badMay _ _ hm'
    omega
  · omega
theorem Trm.may_count (t : Tm) : t.may = decide (0 < t.count) := by
  have hs := t.size_pos
  unfold Tm.count
  cases t.may <;> simp
  omega

set_option maxRecDepth 100000 in
theorem PMay_any (t : Tm) (h : Hd) (w : World) (hin : t.In w.heap.size w h) :
    Calls Tryz.prog 82 #[t.val h] w fun e w' => e = .returned (.bool t.may) ∧ Below w.heap.size w w' := by
  rw [may_count]
  have HX := Lib.hid (PSize_any t h (w.alloc (t.box h)) (Tm.In.mono (by simp) _ _ (Tm.In.below (below_one w (t.box h)) _ _ hin)))
  have hL := count_ge t
  generalize t.count = X at HX hL ⊢
  clear hin
  unfold Tm.box at HX
  unfold Tm.val at HX ⊢
  dsimp only [Tm.vals] at HX ⊢
  go_enter Tryz.func82, Tryz.ntmps82
  go_wp2_with fail
  refine HX.out.mono ?_
  rintro e w1 ⟨rfl, b1⟩
  have HB := Lib.hid ((below_one w _).trans (b1.mono (by simp)))
  clear b1
  go_wp2_with fail
  go_ret
  exact ⟨ret_bool rfl, HB.out⟩
end Go.Proofs.YtiekbhlnnmnklaaGreat



namespace Go.Proofs.YtiekbhlnnmnklaaGreat
open Go.RowKit Go.Shelf Lvl Trm

namespace Trm
mutual
/-- The numbers of the free variables, with u binders around. -/
def Tm.vs : Tm → Int → List Int
  | .mk k n _ _ ts, u => (if k = 2 ∧ u ≤ n then [n - u] else []) ++ vsL k ts 0 u
def vsL (k : Int) : List Tm → Nat → Int → List Int
  | [], _, _ => []
  | t :: r, i, u => t.vs (under k i u) ++ vsL k r (i + 1) (under k i u)
end
def seeFree (n : Int) (t : Tm) (_d u : Int) : Int × Bool := if t.k = 2 ∧ u ≤ t.n then (max n (t.n - u + 1), true) else (n, true)
mutual
theorem Tm.walk_free : ∀ (t : Tm) (n d u : Int), t.walk seeFree n d u = ((t.vs u).foldl (fun n v => max n (v + 1)) n, true)
  | .mk k m s ls ts, n, d, u => by
    rw [Tm.walk, Tm.vs, List.foldl_append]
    by_cases h : k = 2 ∧ u ≤ m
    · have hs : seeFree n (.mk k m s ls ts) d u = (max n (m - u + 1), true) := if_pos h
      rw [hs, if_pos rfl, if_pos h, walkL_free]; rfl
    · have hs : seeFree n (.mk k m s ls ts) d u = (n, true) := if_neg h
      rw [hs, if_pos rfl, if_neg h, walkL_free]; rfl
theorem walkL_free (k : Int) : ∀ (ts : List Tm) (i : Nat) (n d u : Int), walkL seeFree k ts i n d u = ((vsL k ts i u).foldl (fun n v => max n (v + 1)) n, true)
  | [], i, n, d, u => by rw [walkL, vsL]; rfl
  | t :: r, i, n, d, u => by rw [walkL, vsL, List.foldl_append, Tm.walk_free, if_pos rfl, walkL_free]
end
/-- So deep a term may be. -/
def OkMay (t : Tm) (d : Int) : Prop := 0 ≤ d ∧ ∃ l, 0 ≤ t.left badMay l (4097 - d)
theorem OkMay.start {t : Tm} (h : t.may = true) : OkMay t 1 := ⟨by omega, 65536, of_decide_eq_true (show decide (0 ≤ t.left badMay 65536 4096) = true from h)⟩
theorem leftL_mem (bad : Tm → Bool) : ∀ (ts : List Tm) (l d : Int), 0 ≤ leftL bad ts l d → ∀ x ∈ ts, ∃ l', 0 ≤ x.left bad l' d
  | [], _, _, _, x, hx => by cases hx
  | t :: r, l, d, h, x, hx => by
    rw [leftL] at h
    split at h
    · omega
    · rcases List.mem_cons.1 hx with rfl | hr
      · exact ⟨l, by omega⟩
      · exact leftL_mem bad r _ d h x hr
theorem OkMay.node {t : Tm} {d : Int} (h : OkMay t d) : t.node = true ∧ d ≤ 4096 := by
  obtain ⟨_, l, hl⟩ := h
  rw [Tm.left_eq] at hl
  split at hl
  · omega
  · rename_i hc
    refine ⟨?_, by omega⟩
    cases hn : t.node
    · exact absurd (Or.inr (Or.inr (by simp [badMay, hn]))) hc
    · rfl
theorem OkMay.down {t : Tm} {d : Int} (h : OkMay t d) : ∀ x ∈ t.ts, OkMay x (d + 1) := fun x hx => by
  obtain ⟨h0, l, hl⟩ := h
  rw [Tm.left_eq] at hl
  split at hl
  · omega
  · obtain ⟨l', hl'⟩ := leftL_mem badMay _ _ _ hl x hx
    exact ⟨by omega, l', by rwa [show 4097 - (d + 1) = 4097 - d - 1 by omega]⟩
theorem node_num {t : Tm} (h : t.node = true) : 0 ≤ t.n ∧ t.n ≤ 1048576 := by
  unfold Tm.node at h
  simp only [Bool.and_eq_true] at h
  obtain ⟨⟨_, h⟩, _⟩ := h
  split at h
  · simpa using h
  · split at h
    · simp at h; omega
    · simp at h; omega
end Trm

set_option maxRecDepth 100000 in
theorem free1_any (v n : Int) (m : Nat) (w : World) (hv0 : 0 ≤ v) (hv1 : v ≤ 1048576) (hm : w.heap[m]? = some (.cells #[.int .i64 n] 3)) :
    Calls Tryz.prog 211 #[.int .i64 v, .pointer (some ⟨m, 0, none⟩)] w fun e w' => e = .returned (.bool true) ∧ w'.heap[m]? = some (.cells #[.int .i64 (max n (v + 1))] 3) ∧ Ran m w w' := by
  have hc := one_cell hm
  have hfr : w.frozen? ⟨m, 0, none⟩ = false := by simp [World.frozen?, hm]
  have hM := fun x : Int => (show (w.setCell ⟨m, 0, none⟩ (.int .i64 x)).heap[m]? = some (.cells #[.int .i64 x] 3) by simp [World.setCell, Array.getElem?_modify, hm])
  have hR := fun x : Int => (show Ran m w (w.setCell ⟨m, 0, none⟩ (.int .i64 x)) from ⟨rfl, rfl, rfl, by simp [World.setCell], fun k _ hk => Below.heap_setCell _ _ _ _ hk⟩)
  have HM := Lib.hid hM
  have HR := Lib.hid hR
  clear hM hR hm
  have hmax := run_max
  go_enter Tryz.func211, Tryz.ntmps211
  go_wp2_with fail
  go_ret
  exact ⟨rfl, HM.out _, HR.out _⟩

set_option maxRecDepth 100000 in
set_option maxHeartbeats 2000000 in
theorem vars1_free {B m C : Nat} (hCm : C ≠ m) (st : Int) (t : Tm) (b o : Nat) (d u : Int) (w : World) (hg : (fun _ => True) st) (hi : (fun n w => w.heap[m]? = some (.cells #[.int .i64 n] 3) ∧ w.heap[C]? = some (.cells #[.func (.func 211) #[] #[.pointer (some ⟨m, 0, none⟩)]] 188)) st w) (hok : OkMay t d) (hu : 0 ≤ u) (hat : RAt B m w b o t) :
    Calls Tryz.prog 226 #[.pointer (some ⟨b, o, none⟩), .int .i64 d, .int .i64 u, .pointer (some ⟨C, 0, none⟩)] w fun e w' => e = .returned (.bool (seeFree st t d u).2) ∧ (fun n w => w.heap[m]? = some (.cells #[.int .i64 n] 3) ∧ w.heap[C]? = some (.cells #[.func (.func 211) #[] #[.pointer (some ⟨m, 0, none⟩)]] 188)) (seeFree st t d u).1 w' ∧ Ran m w w' := by
  obtain ⟨hn0, hn1⟩ := node_num hok.node.1
  have HI := Lib.hid hi
  obtain ⟨hm, hC⟩ := hi
  try dsimp only at hg
  have hCc := one_cell hC
  have z1 : C < w.heap.size := World.block_lt_of_cell? w _ hCc
  obtain ⟨z3, z2, h, ⟨c0, c1, c2, c3, c4⟩, hin⟩ := hat
  have HIN := Lib.hid hin
  have HC := Lib.hid hC
  have HM := Lib.hid hm
  clear hin hC hm
  by_cases h1 : t.k = 2
  · by_cases h2 : u ≤ t.n
    · have hs : seeFree st t d u = (max st (t.n - u + 1), true) := if_pos ⟨h1, h2⟩
      rw [hs]
      clear hs
      have HX := Lib.hid (fun (W : World) (hW : Below w.heap.size w W) => free1_any (t.n - u) st m W (by omega) (by omega) (Lvl.keep hW HM.out))
      have hwr : IntKind.i64.wrap (t.n - u) = t.n - u := IntWalk.i64_in _ (by omega)
      rw [h1] at c0
      have d2 : decide (t.n < u) = false := by simpa using h2
      have H1 := Lib.hid h1
      have H2 := Lib.hid h2
      have HG := Lib.hid hg
      clear h1 h2 hg
      
      go_enter Tryz.func226, Tryz.ntmps226
      go_wp2_with fail
      go_region_held3 (fun w' => w'.cell? ⟨C, 0, none⟩ = some (.func (.func 211) #[] #[.pointer (some ⟨m, 0, none⟩)]) ∧ w'.cell? ⟨b, o, none⟩ = some (.int .u8 2) ∧ w'.cell? ⟨b, o + 1, none⟩ = some (.int .i64 t.n))
        (go_keep)
        ((go_at_call 211; (with_reducible refine (HX.out _ ?_).mono ?_); exact (Below.refl _ _).drew; rintro e w3 ⟨rfl, i3, g3⟩; have q1 := (g3.cell (p := ⟨C, 0, none⟩) z1 hCm).trans hCc; have q2 := (g3.cell (p := ⟨b, o, none⟩) z2 z3).trans c0; have q3 := (g3.cell (p := ⟨b, o + 1, none⟩) z2 z3).trans c1))
      have HI3 := Lib.hid i3
      have HR3 := Lib.hid ((Ran.of_below (Below.refl _ _).drew).trans g3)
      clear i3 g3 q1 q2 q3 hwr
      go_wp2_with fail
      go_ret
      exact ⟨rfl, ⟨HI3.out, HR3.out.keep HC.out hCm⟩, HR3.out⟩
    · have hs : seeFree st t d u = (st, true) := if_neg (fun hh => h2 hh.2)
      rw [hs]
      rw [h1] at c0
      have d2 : decide (t.n < u) = true := by simp; omega
      clear hs h1 h2
      go_enter Tryz.func226, Tryz.ntmps226
      go_wp2_with fail
      go_quiet (fail)
      go_wp2_with fail
      go_ret
      exact ⟨rfl, ⟨Lvl.keep (drew_below _ w _) HI.out.1, Lvl.keep (drew_below _ w _) HC.out⟩, Ran.of_below (drew_below _ w _)⟩
  · have hs : seeFree st t d u = (st, true) := if_neg (fun hh => h1 hh.1)
    rw [hs]
    have d1 : (t.k != 2) = true := by simpa using h1
    clear hs h1
    go_enter Tryz.func226, Tryz.ntmps226
    go_wp2_with fail
    go_quiet (fail)
    go_wp2_with fail
    go_ret
    exact ⟨rfl, ⟨Lvl.keep (drew_below _ w _) HI.out.1, Lvl.keep (drew_below _ w _) HC.out⟩, Ran.of_below (drew_below _ w _)⟩

theorem Trm.sees_free {B m C : Nat} (hBm : B ≤ m) (hCm : C ≠ m) : Sees B m C 226 (seeFree) (fun n w => w.heap[m]? = some (.cells #[.int .i64 n] 3) ∧ w.heap[C]? = some (.cells #[.func (.func 211) #[] #[.pointer (some ⟨m, 0, none⟩)]] 188)) OkMay (fun _ => True) where
  calls st t b o d u w hg hi ho hu0 hud hat hB := vars1_free hCm st t b o d u w hg hi ho hu0 hat
  good st t d u hg ho hr := by
    trivial
  bound t d ho := by have := ho.node; have := ho.1; omega
  down st t d u ho hr x hx := ho.down x hx
  keep st w w' hi hb := ⟨Lvl.keep hb hi.1, Lvl.keep hb hi.2⟩
  low := hBm
  enter args w := by kernel_rfl

end Go.Proofs.YtiekbhlnnmnklaaGreat



namespace Go.Proofs.YtiekbhlnnmnklaaGreat
open Go.RowKit Go.Shelf Lvl Trm

theorem Trm.infoT : (Tryz.prog.info? 27).map (fun i => (i.zero, i.size, i.bytes)) = some (some (.agg #[.int .u8 0, .int .i64 0, .string ⟨#[]⟩, .slice none 0 0, .slice none 0 0]), 5, 80) := by kernel_rfl

def Trm.flat (ps : List (Tm × Hd)) : List Value := ps.flatMap fun p => (p.1.vals p.2).toList
theorem Trm.flat_len (ps : List (Tm × Hd)) : (flat ps).length = ps.length * 5 := by
  induction ps with
  | nil => rfl
  | cons p r ih => simp only [flat, List.flatMap_cons, List.length_append, List.length_cons] at ih ⊢; rw [ih]; simp [Tm.vals]; omega
theorem Trm.flat_at (ps : List (Tm × Hd)) : ∀ k (hk : k < ps.length) q, q < 5 → (flat ps)[k * 5 + q]? = (ps[k].1.vals ps[k].2)[q]? := by
  induction ps with
  | nil => intro k hk; simp at hk
  | cons p r ih =>
    intro k hk q hq
    have h5 : (p.1.vals p.2).toList.length = 5 := by simp [Tm.vals]
    match k, hk with
    | 0, _ =>
      show ((p.1.vals p.2).toList ++ flat r)[0 * 5 + q]? = _
      rw [List.getElem?_append_left (by omega)]
      simp
    | k + 1, hk =>
      show ((p.1.vals p.2).toList ++ flat r)[(k + 1) * 5 + q]? = _
      rw [List.getElem?_append_right (by omega), h5, show (k + 1) * 5 + q - 5 = k * 5 + q by omega]
      exact ih k (by simpa using hk) q hq
theorem Trm.flat_snoc (ps : List (Tm × Hd)) (p : Tm × Hd) : flat (ps ++ [p]) = flat ps ++ (p.1.vals p.2).toList := by simp [flat]

/-- A row of the call's own is a block of terms. -/
theorem Trm.block_of_own {w : World} {base g n cap : Nat} {ps : List (Tm × Hd)} (h : w.ownsRow base 27 5 (.slice (some ⟨g, 0, none⟩) n cap) ps.length (flat ps)) : base ≤ g ∧ n = ps.length ∧ TBlock w g (cap * 5) ps := by
  obtain ⟨hl, h | ⟨g', cap', cur, he, hb, hg, hn, hm, hs, ht⟩⟩ := h
  · cases h.1
  · cases he
    refine ⟨hb, rfl, ⟨cur, hg, hs, by omega, fun k hk q hq => ?_⟩⟩
    rw [← flat_at ps k hk q hq, ← ht, List.getElem?_take_of_lt (by omega), Array.getElem?_toList]

theorem Trm.below_own {w w' : World} {base : Nat} {e size n : Nat} {v : Value} {xs : List Value} (h : w.ownsRow base e size v n xs) (hg : w.grownBy w' v.ownBlock) (hb : base ≤ w.heap.size) : Below base w w' := by
  refine Below.grown (Below.refl _ _) hg hb fun k hk => ?_
  obtain ⟨_, h | ⟨g, cap, cur, rfl, hb2, _⟩⟩ := h
  · rw [h.1] at hk; simp [Value.ownBlock] at hk
  · simp [Value.ownBlock] at hk; omega
theorem Trm.TBlock.ran {m : Nat} {w w' : World} {g S : Nat} {ps : List (Tm × Hd)} (h : TBlock w g S ps) (hr : Ran m w w') (hm : g ≠ m) : TBlock w' g S ps := by
  have hl := h.lt
  obtain ⟨cur, hg, h2⟩ := h
  exact ⟨cur, by rw [hr.block g hl hm]; exact hg, h2⟩
theorem Trm.TBlock.row {B : Nat} {w : World} {g S : Nat} {ps : List (Tm × Hd)} (h : TBlock w g S ps) (hg : g < B) (hi : ∀ p ∈ ps, p.1.In B w p.2) : RowIn B w (some ⟨g, 0, none⟩) 0 (ps.map (·.1)) := by
  refine RowIn.mk fun k hk => ?_
  have hk' : k < ps.length := by simpa using hk
  have hc := h.cells k hk'
  refine ⟨g, 0, rfl, hg, ps[k].2, ?_, ?_⟩
  · rw [List.getElem_map]; simpa using hc
  · rw [List.getElem_map]; exact hi _ (List.getElem_mem hk')
theorem Trm.putT_ran (w : World) (g : Nat) (v0 v1 v2 v3 v4 : Value) : Ran g w (putT w g v0 v1 v2 v3 v4) :=
  ((((Ran.set w g 0 v0).trans (Ran.set _ g 1 v1)).trans (Ran.set _ g 2 v2)).trans (Ran.set _ g 3 v3)).trans (Ran.set _ g 4 v4)

end Go.Proofs.YtiekbhlnnmnklaaGreat



namespace Go.Proofs.YtiekbhlnnmnklaaGreat
open Lvl
namespace Trm

/-- What a leaf becomes: the state, the error, another term (none: it stays). -/
abbrev Lf (σ : Type) := σ → Tm → Int → σ × Int × Option Tm

/-- The binders around a term of a kind: the last one is bound in. -/
def und (k : Int) (last : Bool) (u : Int) : Int := if binds k = true ∧ last = true then u + 1 else u

/-- What comes of a node of whose terms some have been gone through, c: whether one of them is another one. -/
def fin {σ : Type} (k n : Int) (s : ByteArray) (c : Bool) (dn : List Tm) (z : σ × Int × Bool × List Tm) : σ × Int × Option Tm :=
  (z.1, z.2.1, if z.2.1 = 0 ∧ (c || z.2.2.1) = true then some (.mk k n s [] (dn ++ z.2.2.2)) else none)

mutual
def Tm.thr {σ : Type} (lf : Lf σ) : Tm → σ → Int → σ × Int × Option Tm
  | .mk k n s ls ts, st, u => if ts.isEmpty = true then lf st (.mk k n s ls ts) u else fin k n s false [] (thrL lf k ts st u)
def thrL {σ : Type} (lf : Lf σ) (k : Int) : List Tm → σ → Int → σ × Int × Bool × List Tm
  | [], st, _ => (st, 0, false, [])
  | t :: r, st, u =>
    if (t.thr lf st (und k r.isEmpty u)).2.1 = 0 then
      ((thrL lf k r (t.thr lf st (und k r.isEmpty u)).1 (und k r.isEmpty u)).1, (thrL lf k r (t.thr lf st (und k r.isEmpty u)).1 (und k r.isEmpty u)).2.1,
        (t.thr lf st (und k r.isEmpty u)).2.2.isSome || (thrL lf k r (t.thr lf st (und k r.isEmpty u)).1 (und k r.isEmpty u)).2.2.1,
        (t.thr lf st (und k r.isEmpty u)).2.2.getD t :: (thrL lf k r (t.thr lf st (und k r.isEmpty u)).1 (und k r.isEmpty u)).2.2.2)
    else ((t.thr lf st (und k r.isEmpty u)).1, (t.thr lf st (und k r.isEmpty u)).2.1, false, [])
end
theorem Tm.thr_leaf {σ : Type} (lf : Lf σ) {t : Tm} (h : t.ts = []) (st : σ) (u : Int) : t.thr lf st u = lf st t u := by
  cases t with
  | mk k n s ls ts =>
    have h' : ts = [] := h
    subst h'
    rw [Tm.thr]; rfl
theorem Tm.thr_node {σ : Type} (lf : Lf σ) {t : Tm} (h : t.ts ≠ []) (st : σ) (u : Int) : t.thr lf st u = fin t.k t.n t.s false [] (thrL lf t.k t.ts st u) := by
  cases t with
  | mk k n s ls ts =>
    have h' : ts ≠ [] := h
    rw [Tm.thr, if_neg (by simpa using h')]; rfl

theorem fin_bad {σ : Type} (lf : Lf σ) {k n : Int} {s : ByteArray} {c : Bool} {dn : List Tm} {t : Tm} {r : List Tm} {st : σ} {u : Int} {Y : σ × Int × Option Tm} (hY : t.thr lf st (und k r.isEmpty u) = Y) (he : Y.2.1 ≠ 0) :
    fin k n s c dn (thrL lf k (t :: r) st u) = (Y.1, Y.2.1, none) := by
  rw [thrL, hY, if_neg he]
  simp [fin, he]
theorem fin_ok {σ : Type} (lf : Lf σ) {k n : Int} {s : ByteArray} {c : Bool} {dn : List Tm} {t : Tm} {r : List Tm} {st : σ} {u : Int} {Y : σ × Int × Option Tm} (hY : t.thr lf st (und k r.isEmpty u) = Y) (he : Y.2.1 = 0) :
    fin k n s c dn (thrL lf k (t :: r) st u) = fin k n s (c || Y.2.2.isSome) (dn ++ [Y.2.2.getD t]) (thrL lf k r Y.1 (und k r.isEmpty u)) := by
  rw [thrL, hY, if_pos he]
  simp [fin, Bool.or_assoc]
theorem fin_nil {σ : Type} (lf : Lf σ) {k n : Int} {s : ByteArray} {c : Bool} {dn : List Tm} {st : σ} {u : Int} :
    fin k n s c dn (thrL lf k [] st u) = (st, 0, if c = true then some (.mk k n s [] dn) else none) := by
  rw [thrL]
  simp [fin]

theorem node_few {t : Tm} (h : t.node = true) : (t.ts.length : Int) = kids t.k ∧ t.ts.length ≤ 3 ∧ 1 ≤ t.k ∧ t.k ≤ 8 := by
  unfold Tm.node at h
  simp only [Bool.and_eq_true, decide_eq_true_eq] at h
  obtain ⟨⟨⟨⟨⟨h0, h1⟩, _⟩, _⟩, _⟩, _⟩ := h
  refine ⟨h1, ?_, ?_, ?_⟩ <;>
  · unfold kids at h0 h1
    repeat' split at h0
    all_goals (first | omega | (simp_all; done) | (simp_all; omega))
theorem node_inner {t : Tm} (h : t.node = true) (hts : t.ts ≠ []) : t.ls = [] := by
  have hf := node_few h
  have hl : t.ts.length ≠ 0 := fun h0 => hts (List.eq_nil_of_length_eq_zero h0)
  have h1 := hf.1
  unfold Tm.node at h
  simp only [Bool.and_eq_true] at h
  obtain ⟨_, h6⟩ := h
  have hk : t.k ≠ 1 ∧ t.k ≠ 3 := by
    refine ⟨?_, ?_⟩ <;>
    · intro hk
      rw [hk] at h1
      simp [kids] at h1
      exact hts h1
  rw [if_neg hk.1, if_neg hk.2] at h6
  exact List.eq_nil_of_length_eq_zero (of_decide_eq_true h6)

mutual
theorem Tm.thr_good {σ : Type} {lf : Lf σ} {Good : σ → Prop} (hg : ∀ st t u, Good st → t.node = true → t.ts = [] → (lf st t u).2.1 = 0 → Good (lf st t u).1) :
    ∀ (t : Tm) (st : σ) (d u : Int), OkMay t d → Good st → (t.thr lf st u).2.1 = 0 → Good (t.thr lf st u).1
  | .mk k n s ls ts, st, d, u, ho, g, h => by
    rw [Tm.thr] at h ⊢
    split at h
    · rename_i hs
      rw [if_pos hs]
      exact hg st _ u g ho.node.1 (show ts = [] by simpa using hs) h
    · rename_i hs
      rw [if_neg hs]
      exact thrL_good hg k ts st (d + 1) u (fun x hx => ho.down x hx) g h
theorem thrL_good {σ : Type} {lf : Lf σ} {Good : σ → Prop} (hg : ∀ st t u, Good st → t.node = true → t.ts = [] → (lf st t u).2.1 = 0 → Good (lf st t u).1) (k : Int) :
    ∀ (ts : List Tm) (st : σ) (d u : Int), (∀ x ∈ ts, OkMay x d) → Good st → (thrL lf k ts st u).2.1 = 0 → Good (thrL lf k ts st u).1
  | [], st, d, u, _, g, _ => by rw [thrL]; exact g
  | t :: r, st, d, u, ho, g, h => by
    rw [thrL] at h ⊢
    split at h
    · rename_i he
      rw [if_pos he]
      exact thrL_good hg k r _ d _ (fun x hx => ho x (by simp [hx])) (Tm.thr_good hg t st d _ (ho t (by simp)) g he) h
    · rename_i he
      exact absurd h he
end
theorem Tm.thr_kind {σ : Type} {lf : Lf σ} (hk : ∀ st t u y, t.node = true → t.ts = [] → (lf st t u).2.2 = some y → y.k ≠ 0) {t : Tm} {st : σ} {d u : Int} (ho : OkMay t d) {y : Tm} (h : (t.thr lf st u).2.2 = some y) : y.k ≠ 0 := by
  by_cases hts : t.ts = []
  · rw [Tm.thr_leaf lf hts] at h
    exact hk st t u y ho.node.1 hts h
  · rw [Tm.thr_node lf hts] at h
    have := (node_few ho.node.1).2.2
    unfold fin at h
    dsimp only at h
    split at h
    · cases h
      show t.k ≠ 0
      omega
    · cases h
end Trm
end Go.Proofs.YtiekbhlnnmnklaaGreat



namespace Go.Proofs.YtiekbhlnnmnklaaGreat
open Go.RowKit Go.Shelf Lvl Trm

namespace Trm
def zeroT : Tm := .mk 0 0 no [] []

theorem RanS.cell {P : Nat → Prop} {w w' : World} (h : RanS P w w') {p : Addr} (hp : p.block < w.heap.size) (hm : ¬ P p.block) : w'.cell? p = w.cell? p := World.cell?_of_block (h.block p.block hp hm)
theorem RanS.more {P : Nat → Prop} {w w' : World} (h : RanS P w w') (o : Obj) : RanS P w (w'.alloc o) := h.trans (RanS.of_below (below_one _ _))
theorem RanS.drewN {P : Nat → Prop} {w w' : World} (h : RanS P w w') (n : Nat) : RanS P w (w'.drewN n) := h.trans (RanS.of_below (by refine ⟨?_, ?_, ?_, ?_, ?_⟩ <;> simp [World.drewN]))
theorem RanS.wide {P Q : Nat → Prop} {w w' : World} (h : RanS P w w') (hpq : ∀ k, P k → Q k) : RanS Q w w' := ⟨h.os, h.tape, h.output, h.size, fun k hk hn => h.block k hk (fun hp => hn (hpq k hp))⟩
theorem RanS.put {P : Nat → Prop} {w w' : World} (h : RanS P w w') {b : Nat} (hb : w.heap.size ≤ b) (v0 v1 v2 v3 v4 : Value) : RanS P w (putT w' b v0 v1 v2 v3 v4) :=
  ⟨(putT_ran w' b v0 v1 v2 v3 v4).os.trans h.os, (putT_ran w' b v0 v1 v2 v3 v4).tape.trans h.tape, (putT_ran w' b v0 v1 v2 v3 v4).output.trans h.output, Nat.le_trans h.size (putT_ran w' b v0 v1 v2 v3 v4).size,
    fun k hk hn => ((putT_ran w' b v0 v1 v2 v3 v4).block k (Nat.lt_of_lt_of_le hk h.size) (by omega)).trans (h.block k hk hn)⟩
theorem RanS.putO {P : Nat → Prop} {w w' : World} (h : RanS P w w') {b : Nat} (hb : w.heap.size ≤ b) (o : Nat) (v0 v1 v2 v3 v4 : Value) : RanS P w (putO w' b o v0 v1 v2 v3 v4) :=
  ⟨(putO_ran w' b o v0 v1 v2 v3 v4).os.trans h.os, (putO_ran w' b o v0 v1 v2 v3 v4).tape.trans h.tape, (putO_ran w' b o v0 v1 v2 v3 v4).output.trans h.output, Nat.le_trans h.size (putO_ran w' b o v0 v1 v2 v3 v4).size,
    fun k hk hn => ((putO_ran w' b o v0 v1 v2 v3 v4).block k (Nat.lt_of_lt_of_le hk h.size) (by omega)).trans (h.block k hk hn)⟩
theorem FirmS.less {P Q : Nat → Prop} {w : World} {t : Tm} {h : Hd} (g : FirmS Q w t h) (hpq : ∀ k, k < w.heap.size → P k → Q k) : FirmS P w t h :=
  fun w' hr => g w' ⟨hr.os, hr.tape, hr.output, hr.size, fun k hk hn => hr.block k hk (fun hp => hn (hpq k hk hp))⟩
theorem TCells.ranS {P : Nat → Prop} {w w1 : World} {b o : Nat} {t : Tm} {h : Hd} (c : TCells w b o t h) (g : RanS P w w1) (hb : b < w.heap.size) (hm : ¬ P b) : TCells w1 b o t h :=
  ⟨(g.cell (p := ⟨b, _, none⟩) hb hm).trans c.c0, (g.cell (p := ⟨b, _, none⟩) hb hm).trans c.c1, (g.cell (p := ⟨b, _, none⟩) hb hm).trans c.c2, (g.cell (p := ⟨b, _, none⟩) hb hm).trans c.c3, (g.cell (p := ⟨b, _, none⟩) hb hm).trans c.c4⟩
theorem TBlock.ranS {P : Nat → Prop} {w w' : World} {g S : Nat} {ps : List (Tm × Hd)} (h : TBlock w g S ps) (hr : RanS P w w') (hm : ¬ P g) : TBlock w' g S ps := by
  have hl := h.lt
  obtain ⟨cur, hg, h2⟩ := h
  exact ⟨cur, by rw [hr.block g hl hm]; exact hg, h2⟩

/-- A term lies at an address outside of the blocks of P, its terms below B. -/
def SAt (B : Nat) (P : Nat → Prop) (w : World) (b o : Nat) (t : Tm) : Prop := ¬ P b ∧ b < w.heap.size ∧ ∃ h, TCells w b o t h ∧ t.In B w h
theorem TAt.sroot {B : Nat} {P : Nat → Prop} {w : World} {b o : Nat} {t : Tm} (h : TAt B w b o t) (hP : ∀ q, P q → B ≤ q) (hB : B ≤ w.heap.size) : SAt B P w b o t := by
  obtain ⟨hb, hd, hc, hi⟩ := h
  exact ⟨fun hp => by have := hP b hp; omega, by omega, hd, hc, hi⟩

/-- What comes of going through a term: the term that is answered lies there whatever is written into the blocks from B on that were there. -/
def ThrPost {σ : Type} (B : Nat) (P : Nat → Prop) (R : σ × Int × Option Tm) (Inv : σ → World → Prop) (w : World) : Ending → World → Prop := fun e w' =>
  ∃ h, e = .returned (.tuple #[(R.2.2.getD zeroT).val h, .int .i64 R.2.1]) ∧ FirmS (fun q => B ≤ q ∧ q < w.heap.size) w' (R.2.2.getD zeroT) h ∧ Inv R.1 w' ∧ RanS P w w'

theorem firm_zero {P : Nat → Prop} {w : World} {lc tc : Nat} : FirmS P w zeroT ⟨none, lc, none, tc⟩ := fun _ _ => leaf_in (by decide) (by decide) (by decide) (by decide) (by decide)

/-- What is asked of a function that sees each leaf. -/
structure Leaf {σ : Type} (B N : Nat) (P : Nat → Prop) (C : Nat) (f : FuncId) (lf : Lf σ) (Inv : σ → World → Prop) (Good : σ → Prop) : Prop where
  calls : ∀ st t b o u w, Good st → Inv st w → t.node = true → t.ts = [] → 0 ≤ u → u ≤ 4096 → SAt B P w b o t → B ≤ w.heap.size → N ≤ w.heap.size → (∀ q, P q → q < w.heap.size) →
    Calls Tryz.prog f #[.pointer (some ⟨b, o, none⟩), .int .i64 u, .pointer (some ⟨C, 0, none⟩)] w (ThrPost B P (lf st t u) Inv w)
  good : ∀ st t u, Good st → t.node = true → t.ts = [] → (lf st t u).2.1 = 0 → Good (lf st t u).1
  kind : ∀ st t u y, t.node = true → t.ts = [] → (lf st t u).2.2 = some y → y.k ≠ 0
  keep : ∀ st w w', Inv st w → Below N w w' → Inv st w'
  low : ∀ q, P q → B ≤ q
  enter : ∀ (args : Array Value) (w : World), Sem.run Tryz.prog (callFunc f args) w = .ok (.enter f args) w
end Trm

set_option maxRecDepth 100000 in
theorem binds_any (k : Int) (w : World) :
    Calls Tryz.prog 191 #[.int .u8 k] w fun e w' => e = .returned (.bool (binds k)) ∧ w = w' := by
  have hb : binds k = ((k == 5) || (k == 6) || (k == 7)) := by unfold binds; rw [Bool.eq_iff_iff]; simp; omega
  rw [hb]
  clear hb
  go_enter Tryz.func191, Tryz.ntmps191
  cases h5 : k == 5
  · cases h6 : k == 6
    · cases h7 : k == 7
      · go_wp2_with fail
        go_ret
        exact ⟨rfl, rfl⟩
      · go_wp2_with fail
        go_ret
        exact ⟨rfl, rfl⟩
    · go_wp2_with fail
      go_ret
      exact ⟨rfl, rfl⟩
  · go_wp2_with fail
    go_ret
    exact ⟨rfl, rfl⟩

set_option maxRecDepth 100000 in
set_option maxHeartbeats 1000000 in
theorem Clone_any (b off n cap : Nat) (ps : List (Tm × Hd)) (w : World) (hn : ps.length = n) (h3 : n ≤ 1000000) (hc : ∀ k (hk : k < ps.length), TCells w b (off + k * 5) ps[k].1 ps[k].2) (h0 : 0 < n) :
    Calls Tryz.prog 192 #[.slice (some ⟨b, off, none⟩) n cap] w fun e w' => ∃ L S c, e = .returned (.slice (some ⟨L, 0, none⟩) n c) ∧ w.heap.size ≤ L ∧ L < w'.heap.size ∧ TBlock w' L S ps ∧ Below w.heap.size w w' := by
  obtain ⟨i0, hi, hz0, hz1, hz2⟩ := info_parts infoT
  have HC : Hid (∀ j u, (flat ps)[j]? = some u → w.cell? ⟨b, off + j, none⟩ = some u) := Lib.hid (fun j u hj => by
    have hjl : j < ps.length * 5 := by rw [← flat_len]; exact (List.getElem?_eq_some_iff.1 hj).1
    have hk : j / 5 < ps.length := by omega
    have hq : j % 5 < 5 := Nat.mod_lt _ (by omega)
    have e := flat_at ps (j / 5) hk (j % 5) hq
    rw [show j / 5 * 5 + j % 5 = j by omega, hj] at e
    obtain ⟨c0, c1, c2, c3, c4⟩ := hc (j / 5) hk
    have h5 : j % 5 = 0 ∨ j % 5 = 1 ∨ j % 5 = 2 ∨ j % 5 = 3 ∨ j % 5 = 4 := by omega
    rcases h5 with h | h | h | h | h <;> rw [h] at e <;> simp [Tm.vals] at e <;> subst e
    · rw [show off + j = off + j / 5 * 5 by omega]; exact c0
    · rw [show off + j = off + j / 5 * 5 + 1 by omega]; exact c1
    · rw [show off + j = off + j / 5 * 5 + 2 by omega]; exact c2
    · rw [show off + j = off + j / 5 * 5 + 3 by omega]; exact c3
    · rw [show off + j = off + j / 5 * 5 + 4 by omega]; exact c4)
  have hone : ∀ u ∈ flat ps, u.oneCell' = true := by
    intro u hu
    unfold flat at hu
    rw [List.mem_flatMap] at hu
    obtain ⟨p, _, hp⟩ := hu
    simp [Tm.vals] at hp
    rcases hp with rfl | rfl | rfl | rfl | rfl <;> rfl
  have q22 : ∀ (w : World) (a : Option Addr) (n c n' c' : Nat), (binOp .eql 25 (.slice a n c) (.slice none n' c')).run Tryz.prog w = .ok (.bool a.isNone) w := fun w a n c n' c' => Lib.run_eql_slice_nil w _ _ a n c n' c' Tryz.underlying25
  clear hc
  go_enter Tryz.func192, Tryz.ntmps192
  go_wp2_with (at_builtin; refine wpList_append_own _ rfl _ _ 25 rfl w.heap.size 27 i0 _ 5 80 Tryz.underlying25 hi hz0 hz1 hz2 rfl (by decide) _ _ _ rfl (World.ownsRow_made w #[] 0 (Nat.le_refl _) (Nat.zero_le _) (by simp)) ⟨b, off, none⟩ n cap (flat ps) rfl ?c1 ?c2 ?c3 ?c4 ?c5 ?c6 ?_)
  case c1 => rw [flat_len, hn]
  case c2 =>
    intro j u hj
    rw [Addr.add_lit]
    exact Lib.cell?_alloc_some _ (HC.out j u hj)
  case c3 => exact hone
  case c4 => unfold maxLen; omega
  case c5 => omega
  case c6 => simp
  intro v' w1 hown hgrow hnil
  have ho0 : (w.alloc (.cells #[] 27)).ownsRow w.heap.size 27 5 (.slice (some ⟨w.heap.size, 0, none⟩) 0 0) 0 [] := World.ownsRow_made w #[] 0 (Nat.le_refl _) (Nat.zero_le _) (by simp)
  have hbel := Lib.hid ((below_one w (.cells #[] 27)).trans (below_own ho0 hgrow (by simp)))
  subst hn
  have HO := Lib.hid hown
  obtain ⟨hfl, ⟨_, hn0⟩ | ⟨g, c, cur, rfl, hbg, hgb, _⟩⟩ := hown
  · omega
  · obtain ⟨hq1, hq2, hq3⟩ := block_of_own HO.out
    have HQ := Lib.hid hq3
    have hgl := (Array.getElem?_eq_some_iff.1 hgb).1
    clear ho0 hgrow hnil hfl hgb hq3 hq2
    go_wp2_with fail
    go_ret
    exact ⟨g, c * 5, c, rfl, hbg, hgl, HQ.out, hbel.out⟩
end Go.Proofs.YtiekbhlnnmnklaaGreat



namespace Go.Proofs.YtiekbhlnnmnklaaGreat
open Go.RowKit Go.Shelf Lvl Trm Env

namespace Env
theorem infoInt : (Tryz.prog.info? 3).map (fun i => (i.zero, i.size, i.bytes)) = some (some (.int .i64 0), 1, 8) := by kernel_rfl
theorem r_cells {w : World} {b o : Nat} {r : Rl} {hd : Hd} (h : w.rangeAt b o (r.vals hd)) : w.cell? ⟨b, o, none⟩ = some (.string r.ctor) ∧ w.cell? ⟨b, o + 1, none⟩ = some (.int .i64 r.fields) ∧ TCells w b (o + 2) r.body hd :=
  ⟨by have := h 0 _ rfl; simpa using this, h 1 _ rfl, ⟨h 2 _ rfl, h 3 _ rfl, h 4 _ rfl, h 5 _ rfl, h 6 _ rfl⟩⟩
theorem r_box {w : World} {b : Nat} {r : Rl} {hd : Hd} (h : w.heap[b]? = some (.cells (r.vals hd).toArray 80)) : w.cell? ⟨b, 0, none⟩ = some (.string r.ctor) ∧ w.cell? ⟨b, 1, none⟩ = some (.int .i64 r.fields) ∧ TCells w b 2 r.body hd := by
  have h1 : ∀ j, w.cell? ⟨b, j, none⟩ = (r.vals hd)[j]? := fun j => by
    unfold World.cell?
    simp [h]
  exact ⟨h1 0, h1 1, ⟨h1 2, h1 3, h1 4, h1 5, h1 6⟩⟩
theorem row_slice {w : World} {base : Nat} {e : TypeId} {size : Nat} {v : Value} {n : Nat} {xs : List Value} (h : w.ownsRow base e size v n xs) : ∃ ao cp, v = .slice ao n cp := by
  rcases h.2 with ⟨hv, h0⟩ | ⟨g, cap, cur, hv, _⟩
  · exact ⟨none, 0, by rw [hv, h0]⟩
  · exact ⟨_, cap, hv⟩
theorem row_same {w w' : World} {base : Nat} {e : TypeId} {size : Nat} {v : Value} {n : Nat} {xs : List Value} (h : w.ownsRow base e size v n xs) (hb : ∀ q, v.ownBlock = some q → w'.heap[q]? = w.heap[q]?) : w'.ownsRow base e size v n xs := by
  refine ⟨h.1, ?_⟩
  rcases h.2 with h0 | ⟨g, cap, cur, hv, h1, hg, rest⟩
  · exact .inl h0
  · exact .inr ⟨g, cap, cur, hv, h1, (hb g (by rw [hv]; rfl)).trans hg, rest⟩
theorem row_keep {w w' : World} {base e size n : Nat} {v : Value} {xs : List Value} (h : w.ownsRow base e size v n xs) (b : Below w.heap.size w w') : w'.ownsRow base e size v n xs := row_same h fun q hq => b.block q (h.lt q hq).2
def Rl.zero : Array Value := #[.string ⟨#[]⟩, .int .i64 0, .int .u8 0, .int .i64 0, .string ⟨#[]⟩, .slice none 0 0, .slice none 0 0]
theorem infoRl : (Tryz.prog.info? 80).map (·.size) = some 7 := by kernel_rfl
theorem less_step {n k : Nat} {z : Int} (hz : z = (k : Int) + 1) (h : k < n) : n - (intOf (.int .i64 z)).toNat < n - (intOf (.int .i64 (k : Int))).toNat := by
  subst hz
  simp [intOf]; omega
theorem nums7 (x : Inf) : x.nums = (x.ns).all numOk := rfl
def first7 (x : Inf) : List Int := [x.fixed, x.index, x.no, x.fields, x.motives, x.minors, x.ctors]
def NsRel (w : World) (x : Inf) (v i : Value) (wr : World) : Prop :=
  ∃ k n : Nat, i = .int .i64 k ∧ n = 7 + k ∧ k ≤ x.rules.length ∧ wr.ownsRow w.heap.size 3 1 v n (zs (first7 x ++ (x.rules.take k).map Rl.fields)) ∧ Below w.heap.size w wr
theorem ns_step (x : Inf) {k : Nat} (hk : k < x.rules.length) : zs (first7 x ++ (x.rules.take k).map Rl.fields) ++ [.int .i64 x.rules[k].fields] = zs (first7 x ++ (x.rules.take (k + 1)).map Rl.fields) := by
  rw [zs_snoc, List.append_assoc, List.take_succ_eq_append_getElem hk, List.map_append]
  rfl
theorem below_grown {B : Nat} {w wr w3 w6 : World} {v : Value} {o : Obj} {e size n : Nat} {xs : List Value} (hb : Below B w wr) (h3 : Below wr.heap.size wr w3) (hg : (w3.alloc o).grownBy w6 v.ownBlock) (hrow : wr.ownsRow B e size v n xs) (hB : B ≤ wr.heap.size) : Below B w w6 := by
  have hs3 := h3.size
  have hs6 := hg.size
  rw [World.size_alloc] at hs6
  refine Below.trans (Below.trans hb (h3.mono hB)) (Below.trans ((below_one w3 o).mono (by omega)) ⟨hg.os, hg.tape, hg.output, hg.size, fun q hq => hg.block q (by rw [World.size_alloc]; omega) (fun e => by have := (hrow.lt q e.symm).1; omega)⟩)
end Env

set_option maxRecDepth 100000 in
set_option maxHeartbeats 4000000 in
theorem numbersMay_any {w : World} {b : Nat} {x : Inf} {h : IHd} (hb : IBox w b x h) (hr : RRow w.heap.size w h.ro x.rules) (hn : x.rules.length ≤ 1000) : Calls Tryz.prog 103 #[.pointer (some ⟨b, 0, none⟩)] w fun e w' => e = .returned (.bool x.nums) ∧ Below w.heap.size w w' := by
  have HB := Lib.hid hb
  have HR := Lib.hid hr
  have HN := Lib.hid hn
  have HKR := Lib.hid infoRl
  have c16 : w.cell? ⟨b, 16, none⟩ = some (.int .i64 x.fixed) := hb.cell 16
  have c17 : w.cell? ⟨b, 17, none⟩ = some (.int .i64 x.index) := hb.cell 17
  have c18 : w.cell? ⟨b, 18, none⟩ = some (.int .i64 x.no) := hb.cell 18
  have c19 : w.cell? ⟨b, 19, none⟩ = some (.int .i64 x.fields) := hb.cell 19
  have c20 : w.cell? ⟨b, 20, none⟩ = some (.int .i64 x.motives) := hb.cell 20
  have c21 : w.cell? ⟨b, 21, none⟩ = some (.int .i64 x.minors) := hb.cell 21
  have c23 : w.cell? ⟨b, 23, none⟩ = some (.int .i64 x.ctors) := hb.cell 23
  have HROW0 := Lib.hid (fun (W : World) (hW : w.heap.size ≤ W.heap.size) => World.ownsRow_lit (base := w.heap.size) (e := 3) (size := 1) W #[.int .i64 x.fixed, .int .i64 x.index, .int .i64 x.no, .int .i64 x.fields, .int .i64 x.motives, .int .i64 x.minors, .int .i64 x.ctors] 7 hW (by decide) rfl)
  obtain ⟨i0, hi, hz0, hz1, hz2⟩ := info_parts infoInt
  obtain ⟨G, hG⟩ : ∃ G, G = x.nums := ⟨_, rfl⟩
  rw [← hG]
  have HG := Lib.hid hG
  clear hb hr hn hG
  go_enter Tryz.func103, Tryz.ntmps103
  go_upto_region 1 with fail
  go_region_held3 (fun w' => w'.cell? ⟨b, 16, none⟩ = some (.int .i64 x.fixed) ∧ w'.cell? ⟨b, 17, none⟩ = some (.int .i64 x.index) ∧ w'.cell? ⟨b, 18, none⟩ = some (.int .i64 x.no) ∧ w'.cell? ⟨b, 19, none⟩ = some (.int .i64 x.fields) ∧ w'.cell? ⟨b, 20, none⟩ = some (.int .i64 x.motives) ∧ w'.cell? ⟨b, 21, none⟩ = some (.int .i64 x.minors) ∧ w'.cell? ⟨b, 23, none⟩ = some (.int .i64 x.ctors)) (go_keep) (fail)
  obtain ⟨W1, hW1⟩ : ∃ W1, W1 = (w.alloc (.cells #[.int .i64 x.fixed, .int .i64 x.index, .int .i64 x.no, .int .i64 x.fields, .int .i64 x.motives, .int .i64 x.minors, .int .i64 x.ctors] 3)).drew := ⟨_, rfl⟩
  have B1 := Lib.hid (show Below w.heap.size w W1 from hW1 ▸ (below_one w _).trans (Below.refl _ _).drew)
  have HW1 : Hid (NsRel w x (.slice (some ⟨w.heap.size, 0, none⟩) 7 7) (.int .i64 (0 : Nat)) W1) := Lib.hid ⟨0, 7, rfl, rfl, by omega, by rw [hW1]; exact (HROW0.out w (Nat.le_refl _)).drew, B1.out⟩
  rw [← hW1]
  have c22 : W1.cell? ⟨b, 22, none⟩ = some (.slice h.ro x.rules.length h.rc) := (HB.out.keep B1.out).cell 22
  clear hW1 HROW0 c16 c17 c18 c19 c20 c21 c23
  go_wp2_with fail
  clear c22
  go_loopw [3, 40] (fun v i wr => NsRel w x v i wr) (fun _ i _ => x.rules.length - (intOf i).toNat)
  case atStart => exact HW1.out
  case round =>
    obtain ⟨k, n, rfl, hnk, hk, hrow, hbel⟩ := hrel
    have HNK := Lib.hid hnk
    have HROW := Lib.hid hrow
    have HBEL := Lib.hid hbel
    clear hrow hbel HW1 hnk
    by_cases hlt : k < x.rules.length
    · obtain ⟨b2, off, hd, hro, hb2, hrg, _⟩ := (HR.out.below HBEL.out).place k hlt
      have HST := Lib.hid (ns_step x hlt)
      obtain ⟨r, hre⟩ : ∃ r, r = x.rules[k] := ⟨_, rfl⟩
      rw [← hre] at hrg HST
      have HLT := Lib.hid hlt
      have HRG := Lib.hid hrg
      obtain ⟨W2, hW2⟩ : ∃ W2, W2 = wr.alloc (.cells (r.vals hd).toArray 80) := ⟨_, rfl⟩
      have B2 := Lib.hid (show Below wr.heap.size wr W2 from hW2 ▸ below_one _ _)
      have HX2 := Lib.hid (show W2.heap[wr.heap.size]? = some (.cells (r.vals hd).toArray 80) from hW2 ▸ World.alloc_heap_new _ _)
      have HROW2 := Lib.hid (row_keep HROW.out B2.out)
      have hz2 : W2.heap.size = wr.heap.size + 1 := by rw [hW2]; simp
      have HZ2 := Lib.hid hz2
      obtain ⟨ao6, cp6, hu6⟩ := row_slice HROW.out
      subst hu6
      rw [hro]
      clear hre hrg hz2
      go_upto_region 5 with (first
        | (refine wpList_load_mid rfl 80 (.tmp 42) rfl b2 (off + k * 7) rfl (r.vals hd) _ HRG.out Tryz.underlying80 rfl HKR.out ?_)
        | (refine wpList_store_row rfl 80 (.tmp 5) (.tmp 43) rfl wr.heap.size (r.vals hd).toArray rfl rfl 80 Rl.zero (World.alloc_heap_new wr _) HKR.out rfl (by kernel_rfl) ?_))
      rw [World.setRow_alloc_new, ← hW2]
      clear hW2
      obtain ⟨_, d1, _⟩ := r_box HX2.out
      have hq1 : Hid (n + 1 ≤ maxLen) := Lib.hid (by unfold maxLen; have := HN.out; have := HNK.out; omega)
      have hq2 : Hid ((n + 1) * 8 ≤ 140737488355328) := Lib.hid (by have := HN.out; have := HNK.out; omega)
      go_wp2_with (at_builtin; refine wpList_append_lies _ rfl _ _ _ rfl w.heap.size 3 i0 _ 1 8 Tryz.underlying186 hi hz0 hz1 hz2 rfl (by decide) _ n _ rfl (HROW2.out.alloc _) ⟨W2.heap.size, 0, none⟩ 1 1 [.int .i64 r.fields] rfl rfl (World.news_of_block (cs := #[.int .i64 r.fields]) (t := 3) (fr := (0, 0)) (World.alloc_heap_new W2 _)) (by simp [Value.oneCell']) Nat.one_pos hq1.out hq2.out (by rw [World.size_alloc]; have := HBEL.out.size; have := HZ2.out; omega) (W2.heap.size + 1) (World.size_alloc _ _) ?_; intro g1 cap1 w6 hown6 hg6 hat6 hlt6)
      rw [HST.out] at hown6
      have HNX : Hid (∀ z : Int, z = ((k + 1 : Nat) : Int) → NsRel w x (.slice (some ⟨g1, 0, none⟩) (n + 1) cap1) (.int .i64 z) w6) := Lib.hid fun z hz => ⟨k + 1, n + 1, by rw [hz], by have := HNK.out; omega, HLT.out, hown6, below_grown HBEL.out B2.out hg6 HROW.out HBEL.out.size⟩
      have hwk : wrap64 ((k : Int) + 1) = (k : Int) + 1 := IntWalk.wrap64_in _ (by have := HN.out; have := HLT.out; omega)
      clear hown6 hg6 hat6 hlt6 d1
      go_wp2_with fail
      go_roundw
      case rel => exact HNX.out _ (by go_num)
      case measure => exact less_step hwk HLT.out
    · have hke : k = x.rules.length := by omega
      subst hke
      have hrow := HROW.out
      rw [List.take_length] at hrow
      have hns : (first7 x ++ x.rules.map Rl.fields) = x.ns := rfl
      rw [hns] at hrow
      obtain ⟨ao', cp', hu, hzr⟩ := zrow_of (by unfold Inf.ns; simp; have := HNK.out; omega) hrow
      subst hu
      have hlen : x.ns.length ≤ 1000000 := by unfold Inf.ns; simp; have := HN.out; omega
      have HC := Lib.hid (ContainsFunc_any x.ns ao' cp' wr hzr hlen)
      rw [← nums7, ← HG.out] at HC
      clear hrow hns hzr hlen HG
      go_wp2_with fail
      refine HC.out.mono ?_
      rintro e w' ⟨rfl, rfl⟩
      cases G
      all_goals
        go_wp2_with fail
        go_ret
        exact ⟨rfl, HBEL.out⟩
end Go.Proofs.YtiekbhlnnmnklaaGreat


namespace Go.Proofs.YtiekbhlnnmnklaaGreat
open Go.RowKit Go.Shelf Go.Maps Lvl Trm Env

namespace Env
abbrev Ent := Nat × Inf × IHd
def key (s : ByteArray) : List UInt8 := s.data.toList
def ekey (p : Ent) : List UInt8 := key p.2.1.name
/-- The first of this name. -/
def lookE (L : List Ent) (k : List UInt8) : Option Ent := L.find? fun p => ekey p == k
def ptrV (o : Option Ent) : Value := match o with
  | none => .pointer none
  | some p => .pointer (some ⟨p.1, 0, none⟩)
/-- How a pointer to an info reads. -/
def ptrElem (v : Value) : Option (DataW Unit × List MemPlace) := match v with
  | .pointer none => some (.lit (.int .i64 (-1)), [])
  | .pointer (some ⟨b, 0, none⟩) => some (.lit (.int .i64 b), [])
  | _ => none
theorem ptrElem_inv {v : Value} {z : Int} {ps : List MemPlace} (h : ptrElem v = some (.lit (.int .i64 z), ps)) : (z = -1 ∧ v = .pointer none) ∨ ∃ b : Nat, z = b ∧ v = .pointer (some ⟨b, 0, none⟩) := by
  unfold ptrElem at h
  split at h
  · simp at h; exact Or.inl ⟨h.1.symm, rfl⟩
  · rename_i b
    simp at h; exact Or.inr ⟨b, h.1.symm, rfl⟩
  · cases h
/-- The map's datum has these names, each with its block. -/
structure TiedE (D : DataW Unit) (L : List Ent) : Prop where
  isMap : IsMap D
  has : ∀ k : List UInt8, Maps.has D (.string k) = true ↔ ∃ p ∈ L, ekey p = k
  at_ : ∀ p ∈ L, ∀ z, D.atKey (.string (ekey p)) z = .lit (.int .i64 (p.1 : Nat))
def MapE (w : World) (mo : Option Nat) (L : List Ent) : Prop := (mo = none ∧ L = []) ∨ ∃ m D, mo = some m ∧ w.ownsMap Tryz.prog 9 ptrElem m L.length D ∧ TiedE D L
theorem lookE_some {L : List Ent} {k : List UInt8} {p : Ent} (h : lookE L k = some p) : p ∈ L ∧ ekey p = k := by
  unfold lookE at h
  exact ⟨List.mem_of_find?_eq_some h, by simpa using List.find?_some h⟩
theorem lookE_none {L : List Ent} {k : List UInt8} (h : lookE L k = none) : ∀ p ∈ L, ekey p ≠ k := by
  unfold lookE at h
  rw [List.find?_eq_none] at h
  intro p hp he
  exact h p hp (by simp [he])
theorem map_nil (s : ByteArray) (w : World) : (Instr.lookup 97 (.map none) (.string s) false).run Tryz.prog w = .ok (.pointer none) w := by
  kernel_rfl
theorem zeroPtr (w : World) : (zeroValue 102).run Tryz.prog w = .ok (.pointer none) w := by kernel_rfl
theorem map_look {w : World} {mo : Option Nat} {L : List Ent} (h : MapE w mo L) {s : ByteArray} (hs : s.size ≤ maxLen) : (Instr.lookup 97 (.map mo) (.string s) false).run Tryz.prog w = .ok (ptrV (lookE L (key s))) w := by
  rcases h with ⟨rfl, rfl⟩ | ⟨m, D, rfl, hown, ht⟩
  · exact map_nil s w
  · obtain ⟨v, ps, hrun, hv⟩ := hown.lookup (string_keyed Tryz.underlying9) Tryz.underlying97 (zeroPtr w) (zd := .lit (.int .i64 (-1))) (zp := []) rfl (WideMaps.keyOf_string_mk Tryz.underlying9 hs)
    rw [hrun]
    cases hl : lookE L (key s) with
    | none =>
      have hno : Maps.has D (.string (key s)) = false := by
        rw [← Bool.not_eq_true, ht.has]
        rintro ⟨p, hp, he⟩
        exact lookE_none hl p hp he
      rw [show s.data.toList = key s from rfl, atKey_of_not_has hno] at hv
      rcases ptrElem_inv hv with ⟨_, rfl⟩ | ⟨b, hb, _⟩
      · rfl
      · omega
    | some p =>
      obtain ⟨hp, he⟩ := lookE_some hl
      rw [show s.data.toList = ekey p from he.symm, ht.at_ p hp] at hv
      rcases ptrElem_inv hv with ⟨hb, _⟩ | ⟨b, hb, rfl⟩
      · omega
      · have e : b = p.1 := by omega
        rw [e]; rfl
def ownE (e : Nat) (v : Value) (mo : Option Nat) (q : Nat) : Prop := q = e ∨ v.ownBlock = some q ∨ mo = some q
theorem ran_goE {P P' : Nat → Prop} {w w' w2 : World} (hr : RanS P w w') (hr2 : RanS P' w' w2) (hP : ∀ q, P' q → P q ∨ w.heap.size ≤ q) : RanS P w w2 :=
  ⟨hr2.os.trans hr.os, hr2.tape.trans hr.tape, hr2.output.trans hr.output, Nat.le_trans hr.size hr2.size, fun k hk hn => (hr2.block k (Nat.lt_of_lt_of_le hk hr.size) (fun hp => by rcases hP k hp with h | h; exact hn h; omega)).trans (hr.block k hk hn)⟩
theorem firm_turnE {P P' : Nat → Prop} {w w' : World} {t : Tm} {h : Hd} (g : FirmS P w t h) (hr : RanS P w w') (hP : ∀ q, P' q → P q ∨ w.heap.size ≤ q) : FirmS P' w' t h := fun _ hr2 => g _ (ran_goE hr hr2 hP)
theorem range_ran {P : Nat → Prop} {w w' : World} {b o : Nat} {cs : List Value} (h : w.rangeAt b o cs) (hr : RanS P w w') (hb : b < w.heap.size) (hn : ¬ P b) : w'.rangeAt b o cs := fun j v hv => (hr.cell (p := ⟨b, o + j, none⟩) hb hn).trans (h j v hv)
/-- Rules that lie there whatever is written into the blocks of P. -/
structure FirmR (P : Nat → Prop) (w : World) (ro : Option Addr) (rs : List Rl) : Prop where
  place : ∀ k (hk : k < rs.length), ∃ b off hd, ro = some ⟨b, off, none⟩ ∧ b < w.heap.size ∧ ¬ P b ∧ w.rangeAt b (off + k * 7) (rs[k].vals hd) ∧ FirmS P w rs[k].body hd
theorem FirmR.turn {P P' : Nat → Prop} {w w' : World} {ro : Option Addr} {rs : List Rl} (h : FirmR P w ro rs) (hr : RanS P w w') (hP : ∀ q, P' q → P q ∨ w.heap.size ≤ q) : FirmR P' w' ro rs := ⟨fun k hk => by
  obtain ⟨b, off, hd, h1, h2, h3, h4, h5⟩ := h.place k hk
  exact ⟨b, off, hd, h1, Nat.lt_of_lt_of_le h2 hr.size, fun hp => by rcases hP b hp with e | e; exact h3 e; omega, range_ran h4 hr h2 h3, firm_turnE h5 hr hP⟩⟩
theorem FirmR.here {P : Nat → Prop} {w : World} {ro : Option Addr} {rs : List Rl} (h : FirmR P w ro rs) : RRow w.heap.size w ro rs := ⟨fun k hk => by
  obtain ⟨b, off, hd, h1, h2, _, h4, h5⟩ := h.place k hk
  exact ⟨b, off, hd, h1, h2, h4, h5.here⟩⟩
theorem FirmR.of {P : Nat → Prop} {B : Nat} {w : World} {ro : Option Addr} {rs : List Rl} (h : RRow B w ro rs) (hm : ∀ k, P k → B ≤ k) (hB : B ≤ w.heap.size) : FirmR P w ro rs := ⟨fun k hk => by
  obtain ⟨b, off, hd, h1, h2, h4, h5⟩ := h.place k hk
  exact ⟨b, off, hd, h1, by omega, fun hp => by have := hm b hp; omega, h4, FirmS.of h5 hm hB⟩⟩
/-- It lies there whatever is written into the blocks of P. -/
structure FirmI (P : Nat → Prop) (w : World) (x : Inf) (h : IHd) : Prop where
  fit : x.Fit
  ty : FirmS P w x.ty h.ty
  va : FirmS P w x.va h.va
  rules : FirmR P w h.ro x.rules
theorem FirmI.here {P : Nat → Prop} {w : World} {x : Inf} {h : IHd} (f : FirmI P w x h) : x.In w.heap.size w h := ⟨f.fit, f.ty.here, f.va.here, f.rules.here⟩
theorem FirmI.turn {P P' : Nat → Prop} {w w' : World} {x : Inf} {h : IHd} (f : FirmI P w x h) (hr : RanS P w w') (hP : ∀ q, P' q → P q ∨ w.heap.size ≤ q) : FirmI P' w' x h := ⟨f.fit, firm_turnE f.ty hr hP, firm_turnE f.va hr hP, f.rules.turn hr hP⟩
theorem FirmI.step {P : Nat → Prop} {w w' : World} {x : Inf} {h : IHd} (f : FirmI P w x h) (r : RanS P w w') : FirmI P w' x h := f.turn r (fun _ hq => Or.inl hq)
theorem FirmI.of {P : Nat → Prop} {B : Nat} {w : World} {x : Inf} {h : IHd} (i : x.In B w h) (hm : ∀ k, P k → B ≤ k) (hB : B ≤ w.heap.size) : FirmI P w x h := ⟨i.fit, FirmS.of i.ty hm hB, FirmS.of i.va hm hB, FirmR.of i.rules hm hB⟩
structure EnvB (B : Nat) (w : World) (e : Nat) (L : List Ent) (mo : Option Nat) (v : Value) : Prop where
  box : w.heap[e]? = some (.cells #[.map mo, v] 99)
  row : w.ownsRow B 9 1 v L.length (L.map fun p => .string p.2.1.name)
  map : MapE w mo L
  info : ∀ p ∈ L, IBox w p.1 p.2.1 p.2.2 ∧ ¬ ownE e v mo p.1
  firm : ∀ p ∈ L, FirmI (ownE e v mo) w p.2.1 p.2.2
  nodup : (L.map ekey).Nodup
  apart : v.ownBlock ≠ some e ∧ mo ≠ some e ∧ ∀ q, v.ownBlock = some q → mo ≠ some q
  eB : B ≤ e
  hgt : ∀ p ∈ L, 0 ≤ p.2.1.height ∧ p.2.1.height ≤ (L.length : Int)
  few : L.length ≤ 4096
end Env

set_option maxRecDepth 100000 in
theorem at_nil (s : ByteArray) (w : World) : Calls Tryz.prog 61 #[.pointer none, .string s] w fun e w' => e = .returned (.pointer none) ∧ w = w' := by
  go_enter Tryz.func61, Tryz.ntmps61
  go_wp2_with fail
  go_ret
  exact ⟨rfl, rfl⟩
set_option maxRecDepth 100000 in
theorem at_any {B : Nat} {w : World} {e : Nat} {L : List Ent} {mo : Option Nat} {v : Value} (h : EnvB B w e L mo v) (s : ByteArray) (hs : s.size ≤ maxLen) : Calls Tryz.prog 61 #[.pointer (some ⟨e, 0, none⟩), .string s] w fun x w' => x = .returned (ptrV (lookE L (key s))) ∧ w = w' := by
  have hrun := map_look h.map hs
  have hb := h.box
  have c0 : w.cell? ⟨e, 0, none⟩ = some (.map mo) := by simp [World.cell?, hb]
  generalize ptrV (lookE L (key s)) = V at hrun ⊢
  clear hb h
  go_enter Tryz.func61, Tryz.ntmps61
  go_wp2_with fail
  go_ret
  exact ⟨rfl, rfl⟩
end Go.Proofs.YtiekbhlnnmnklaaGreat

