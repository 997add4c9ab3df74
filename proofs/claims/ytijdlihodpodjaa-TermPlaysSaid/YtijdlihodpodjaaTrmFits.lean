/-
  term.fits.
-/
import Derived.Test.YtijdlihodpodjaaTrmKind
import Derived.Test.YtijdlihodpodjaaTrmNode
namespace Go.Proofs.Ytijdlihodpodjaa
open Go.RowKit Go.Shelf Lvl Trm

/-- term.fits in its own words. -/
def Trm.Tm.fits (t : Tm) : Bool :=
  isKind t.k && decide (0 ≤ t.n) && decide (t.n ≤ (kd t.k).top) && decide ((t.ts.length : Int) = (kd t.k).terms) && decide ((kd t.k).least ≤ (t.ls.length : Int)) && decide ((t.ls.length : Int) ≤ (kd t.k).most) &&
  (if (kd t.k).named = true then nameOk t.s else t.s.toList.isEmpty) && t.ls.all Lv.may

theorem Trm.drew_below (B : Nat) (w : World) (n : Nat) : Below B w (w.drewN n) := by
  refine ⟨?_, ?_, ?_, ?_, ?_⟩ <;> simp [World.drewN]
theorem Trm.fits_node (t : Tm) : t.fits = t.node := by
  unfold Tm.fits Tm.node
  by_cases h : t.k = 1 ∨ t.k = 2 ∨ t.k = 3 ∨ t.k = 4 ∨ t.k = 5 ∨ t.k = 6 ∨ t.k = 7 ∨ t.k = 8
  · rw [empty_iff]
    generalize t.ls.all Lv.may = A
    generalize nameOk t.s = B
    rcases h with h | h | h | h | h | h | h | h <;> rw [h, Bool.eq_iff_iff] <;> simp [kd, isKind, kids] <;> constructor <;> (intro hh; (try refine ⟨⟨⟨⟨⟨⟨?_, ?_⟩, ?_⟩, ?_⟩, ?_⟩, ?_⟩, ?_⟩); all_goals first | omega | (simp_all; try omega) | simp_all)
  · have h1 : isKind t.k = false := by unfold isKind; simp; omega
    have h2 : ¬ 0 ≤ kids t.k := by
      unfold kids
      rw [if_neg (by omega), if_neg (by omega), if_neg (by omega), if_neg (by omega)]
      omega
    simp [h1, h2]

def Trm.FitRel (w : World) (ls : List Lv) (i : Value) (wr : World) : Prop :=
  ∃ k : Nat, i = .int .i64 k ∧ k ≤ ls.length ∧ (ls.take k).all Lv.may = true ∧ Below w.heap.size w wr

set_option maxRecDepth 100000 in
set_option maxHeartbeats 8000000 in
theorem fits_any (t : Tm) (b o : Nat) (w : World) (hat : TAt w.heap.size w b o t) :
    Calls Try.prog 72 #[.pointer (some ⟨b, o, none⟩)] w fun e w' => e = .returned (.bool t.node) ∧ Below w.heap.size w w' := by
  rw [← fits_node]
  obtain ⟨G, hG⟩ : ∃ G, G = t.fits := ⟨_, rfl⟩
  rw [← hG]
  have HG := Lib.hid hG
  clear hG
  obtain ⟨hb, h, hc, hin⟩ := hat
  have hfit := hin.fit
  have hls := hfit.ls
  have hts := hfit.ts
  have hss := hfit.s
  clear hfit
  have HIN := Lib.hid hin
  have HC := Lib.hid hc
  clear hin
  obtain ⟨c0, c1, c2, c3, c4⟩ := hc
  have HN : Hid (t.fits = false → false = G) := Lib.hid (fun hh => by rw [HG.out, hh])
  have HF : Hid (t.fits = (isKind t.k && decide (0 ≤ t.n) && decide (t.n ≤ (kd t.k).top) && decide ((t.ts.length : Int) = (kd t.k).terms) && decide ((kd t.k).least ≤ (t.ls.length : Int)) && decide ((t.ls.length : Int) ≤ (kd t.k).most) &&
    (if (kd t.k).named = true then nameOk t.s else t.s.toList.isEmpty) && t.ls.all Lv.may)) := Lib.hid rfl
  have HK := Lib.hid (kindOf_any t.k w)
  unfold Kd.val Kd.vals at HK
  generalize kd t.k = a at HF HK
  generalize isKind t.k = is at HF HK
  have ht : ∀ W, Below w.heap.size w W → TCells W b o t h := fun W hW => HC.out.below hW hb
  have HT := Lib.hid ht
  clear ht
  cases is
  · have HF1 := Lib.hid (HN.out (by rw [HF.out]; simp))
    clear HN HF
    go_enter Try.func72, Try.ntmps72
    go_wp2_with fail
    refine HK.out.mono ?_
    rintro e w1 ⟨rfl, b1⟩
    obtain ⟨d0, d1, d2, d3, d4⟩ := HT.out _ b1
    have hz := b1.size
    have hb2 : b < w1.heap.size := by omega
    have HB := Lib.hid b1
    clear b1 c0 c1 c2 c3 c4
    go_wp2_with fail
    go_quiet (fail)
    go_wp2_with fail
    go_ret
    exact ⟨ret_bool HF1.out, HB.out.trans ((((Below.refl w1.heap.size w1).alloc (Nat.le_refl _) _).trans (drew_below _ _ _)).mono hz)⟩
  · by_cases hq0 : t.n < 0
    · have d0x : decide (t.n < 0) = true := by simpa using hq0
      have HF1 := Lib.hid (HN.out (by rw [HF.out]; simp [show ¬ 0 ≤ t.n by omega]))
      clear hq0 HN HF
      go_enter Try.func72, Try.ntmps72
      go_wp2_with fail
      refine HK.out.mono ?_
      rintro e w1 ⟨rfl, b1⟩
      obtain ⟨d0, d1, d2, d3, d4⟩ := HT.out _ b1
      have hz := b1.size
      have hb2 : b < w1.heap.size := by omega
      have HB := Lib.hid b1
      clear b1 c0 c1 c2 c3 c4
      go_wp2_with fail
      go_quiet (fail)
      go_wp2_with fail
      go_ret
      exact ⟨ret_bool HF1.out, HB.out.trans ((((Below.refl w1.heap.size w1).alloc (Nat.le_refl _) _).trans (drew_below _ _ _)).mono hz)⟩
    · have d0x : decide (t.n < 0) = false := by simpa using hq0
      by_cases hq1 : a.top < t.n
      · have d1x : decide (a.top < t.n) = true := by simpa using hq1
        have HF1 := Lib.hid (HN.out (by rw [HF.out]; simp [show ¬ t.n ≤ a.top by omega]))
        clear hq1 HN HF
        go_enter Try.func72, Try.ntmps72
        go_wp2_with fail
        refine HK.out.mono ?_
        rintro e w1 ⟨rfl, b1⟩
        obtain ⟨d0, d1, d2, d3, d4⟩ := HT.out _ b1
        have hz := b1.size
        have hb2 : b < w1.heap.size := by omega
        have HB := Lib.hid b1
        clear b1 c0 c1 c2 c3 c4
        go_wp2_with fail
        go_quiet (fail)
        go_wp2_with fail
        go_ret
        exact ⟨ret_bool HF1.out, HB.out.trans ((((Below.refl w1.heap.size w1).alloc (Nat.le_refl _) _).trans (drew_below _ _ _)).mono hz)⟩
      · have d1x : decide (a.top < t.n) = false := by simpa using hq1
        by_cases hq2 : ¬ (t.ts.length : Int) = a.terms
        · have d2x : ((t.ts.length : Int) != a.terms) = true := by simpa using hq2
          have HF1 := Lib.hid (HN.out (by rw [HF.out]; simp [hq2]))
          clear hq2 HN HF
          go_enter Try.func72, Try.ntmps72
          go_wp2_with fail
          refine HK.out.mono ?_
          rintro e w1 ⟨rfl, b1⟩
          obtain ⟨d0, d1, d2, d3, d4⟩ := HT.out _ b1
          have hz := b1.size
          have hb2 : b < w1.heap.size := by omega
          have HB := Lib.hid b1
          clear b1 c0 c1 c2 c3 c4
          go_wp2_with fail
          go_quiet (fail)
          go_wp2_with fail
          go_ret
          exact ⟨ret_bool HF1.out, HB.out.trans ((((Below.refl w1.heap.size w1).alloc (Nat.le_refl _) _).trans (drew_below _ _ _)).mono hz)⟩
        · have d2x : ((t.ts.length : Int) != a.terms) = false := by simpa using hq2
          by_cases hq3 : (t.ls.length : Int) < a.least
          · have d3x : decide ((t.ls.length : Int) < a.least) = true := by simpa using hq3
            have HF1 := Lib.hid (HN.out (by rw [HF.out]; simp [show ¬ a.least ≤ (t.ls.length : Int) by omega]))
            clear hq3 HN HF
            go_enter Try.func72, Try.ntmps72
            go_wp2_with fail
            refine HK.out.mono ?_
            rintro e w1 ⟨rfl, b1⟩
            obtain ⟨d0, d1, d2, d3, d4⟩ := HT.out _ b1
            have hz := b1.size
            have hb2 : b < w1.heap.size := by omega
            have HB := Lib.hid b1
            clear b1 c0 c1 c2 c3 c4
            go_wp2_with fail
            go_quiet (fail)
            go_wp2_with fail
            go_ret
            exact ⟨ret_bool HF1.out, HB.out.trans ((((Below.refl w1.heap.size w1).alloc (Nat.le_refl _) _).trans (drew_below _ _ _)).mono hz)⟩
          · have d3x : decide ((t.ls.length : Int) < a.least) = false := by simpa using hq3
            by_cases hq4 : a.most < (t.ls.length : Int)
            · have d4x : decide (a.most < (t.ls.length : Int)) = true := by simpa using hq4
              have HF1 := Lib.hid (HN.out (by rw [HF.out]; simp [show ¬ (t.ls.length : Int) ≤ a.most by omega]))
              clear hq4 HN HF
              go_enter Try.func72, Try.ntmps72
              go_wp2_with fail
              refine HK.out.mono ?_
              rintro e w1 ⟨rfl, b1⟩
              obtain ⟨d0, d1, d2, d3, d4⟩ := HT.out _ b1
              have hz := b1.size
              have hb2 : b < w1.heap.size := by omega
              have HB := Lib.hid b1
              clear b1 c0 c1 c2 c3 c4
              go_wp2_with fail
              go_quiet (fail)
              go_wp2_with fail
              go_ret
              exact ⟨ret_bool HF1.out, HB.out.trans ((((Below.refl w1.heap.size w1).alloc (Nat.le_refl _) _).trans (drew_below _ _ _)).mono hz)⟩
            · have d4x : decide (a.most < (t.ls.length : Int)) = false := by simpa using hq4
              have HR : Hid (t.fits = ((if a.named = true then nameOk t.s else t.s.toList.isEmpty) && t.ls.all Lv.may)) := Lib.hid (by
                rw [HF.out]
                have e2 := Classical.not_not.1 hq2
                simp only [decide_eq_true (show 0 ≤ t.n by omega), decide_eq_true (show t.n ≤ a.top by omega), decide_eq_true e2, decide_eq_true (show a.least ≤ (t.ls.length : Int) by omega), decide_eq_true (show (t.ls.length : Int) ≤ a.most by omega), Bool.true_and])
              clear HF hq0 hq1 hq2 hq3 hq4
              cases hnm : a.named
              · cases hem : t.s.toList.isEmpty
                · rw [hnm] at HR HK
                  clear hnm
                  have hem1 : ¬ t.s.toList = [] := by simpa using hem
                  have HF1 := Lib.hid (HN.out (by rw [HR.out]; simp [hem1]))
                  go_enter Try.func72, Try.ntmps72
                  go_wp2_with fail
                  refine HK.out.mono ?_
                  rintro e w1 ⟨rfl, b1⟩
                  obtain ⟨d0, d1, d2, d3, d4⟩ := HT.out _ b1
                  have hz := b1.size
                  have hb2 : b < w1.heap.size := by omega
                  have HB := Lib.hid b1
                  clear b1 c0 c1 c2 c3 c4
                  go_wp2_with fail
                  go_quiet (fail)
                  go_wp2_with fail
                  go_ret
                  exact ⟨ret_bool HF1.out, HB.out.trans ((((Below.refl w1.heap.size w1).alloc (Nat.le_refl _) _).trans (drew_below _ _ _)).mono hz)⟩
                · rw [hnm] at HR HK
                  clear hnm
                  have hem1 : t.s.toList = [] := by simpa using hem
                  have HS : Hid ((if false = true then nameOk t.s else t.s.toList.isEmpty) = true) := Lib.hid (by simp [hem1])
                  go_enter Try.func72, Try.ntmps72
                  go_wp2_with fail
                  refine HK.out.mono ?_
                  rintro e w1 ⟨rfl, b1⟩
                  obtain ⟨d0, d1, d2, d3, d4⟩ := HT.out _ b1
                  have hz := b1.size
                  have hb2 : b < w1.heap.size := by omega
                  have HB := Lib.hid b1
                  clear b1 c0 c1 c2 c3 c4
                  go_wp2_with fail
                  go_quiet (fail)
                  go_wp2_with fail
                  go_loopw [90] (fun i wr => FitRel w t.ls i wr) (fun i _ => t.ls.length - (intOf i).toNat)
                  case atStart => exact ⟨0, rfl, by omega, rfl, HB.out.trans ((((Below.refl w1.heap.size w1).alloc (Nat.le_refl _) _).trans (drew_below _ _ _)).mono hz)⟩
                  case round =>
                    clear d0 d1 d2 d3 d4
                    obtain ⟨k, rfl, hk, hall, hbel⟩ := hrel
                    have HB2 := Lib.hid hbel
                    have HA := Lib.hid hall
                    clear hbel hall
                    by_cases hlt : k < t.ls.length
                    · obtain ⟨b2, off, hao, l0, l1, l2, l3, l4⟩ := (Trm.LRow.low HIN.out.levels (Tm.In_iff.1 HIN.out).2.2.1 HB2.out).place k hlt
                      have HAO := Lib.hid hao
                      rw [hao]
                      clear hao
                      obtain ⟨x, hx⟩ : ∃ x, x = t.ls[k] := ⟨_, rfl⟩
                      rw [← hx] at l0 l1 l2 l3 l4
                      have hmay := fun w => may_any x w
                      have HNX : Hid (x.may = false → false = G) := Lib.hid (fun hf => HN.out (by
                        have : t.ls.all Lv.may = false := Lvl.all_take_no hlt (by rw [← hx]; exact hf)
                        rw [HR.out, this, Bool.and_false]))
                      have HY : Hid (x.may = true → (t.ls.take (k + 1)).all Lv.may = true) := Lib.hid (fun hf => Lvl.all_take_yes hlt HA.out (by rw [← hx]; exact hf))
                      obtain ⟨r, hr⟩ : ∃ r, r = x.may := ⟨_, rfl⟩
                      rw [← hr] at hmay HNX HY
                      have HM := Lib.hid hmay
                      clear hmay hr hx
                      cases r
                      · go_wp2_with fail
                        unfold Lv.val at HM
                        refine (HM.out _).mono ?_
                        rintro e w3 ⟨rfl, b3⟩
                        have HB3 := Lib.hid ((HB2.out.alloc HB2.out.size x.box).trans (b3.mono (by have := HB2.out.size; simp; omega)))
                        clear b3
                        go_wp2_with fail
                        go_ret
                        exact ⟨ret_bool (HNX.out (by trivial)), HB3.out⟩
                      · go_wp2_with fail
                        unfold Lv.val at HM
                        refine (HM.out _).mono ?_
                        rintro e w3 ⟨rfl, b3⟩
                        have HB3 := Lib.hid ((HB2.out.alloc HB2.out.size x.box).trans (b3.mono (by have := HB2.out.size; simp; omega)))
                        clear b3
                        go_wp2_with fail
                        go_roundw
                        case rel => exact ⟨k + 1, by go_num, by omega, HY.out (by trivial), HB3.out⟩
                        case measure => simp [intOf]; omega
                    · have HE : Hid (true = G) := Lib.hid (by
                        have hall := HA.out
                        rw [List.take_of_length_le (by omega)] at hall
                        rw [HG.out, HR.out, hall, Bool.and_true, HS.out])
                      go_wp2_with fail
                      go_ret
                      exact ⟨ret_bool HE.out, HB2.out⟩
              · cases hem : t.s.toList.isEmpty
                · cases hok : nameOk t.s
                  · rw [hnm] at HR HK
                    clear hnm
                    have HNAME : Hid (∀ w, Calls Try.prog 15 #[.string t.s] w fun e w' => e = .returned (.bool false) ∧ w = w') := Lib.hid (fun w => by rw [← hok]; exact Name_any t.s w hss)
                    have hem1 : ¬ t.s.toList = [] := by simpa using hem
                    have HF1 := Lib.hid (HN.out (by rw [HR.out]; simp [hok]))
                    clear hok
                    go_enter Try.func72, Try.ntmps72
                    go_wp2_with fail
                    refine HK.out.mono ?_
                    rintro e w1 ⟨rfl, b1⟩
                    obtain ⟨d0, d1, d2, d3, d4⟩ := HT.out _ b1
                    have hz := b1.size
                    have hb2 : b < w1.heap.size := by omega
                    have HB := Lib.hid b1
                    clear b1 c0 c1 c2 c3 c4
                    go_wp2_with fail
                    go_quiet (fail)
                    go_wp2_with (go_at_call 15; refine (HNAME.out _).mono ?_; rintro e w' ⟨rfl, rfl⟩)
                    go_ret
                    exact ⟨ret_bool HF1.out, HB.out.trans ((((Below.refl w1.heap.size w1).alloc (Nat.le_refl _) _).trans (drew_below _ _ _)).mono hz)⟩
                  · rw [hnm] at HR HK
                    clear hnm
                    have HNAME : Hid (∀ w, Calls Try.prog 15 #[.string t.s] w fun e w' => e = .returned (.bool true) ∧ w = w') := Lib.hid (fun w => by rw [← hok]; exact Name_any t.s w hss)
                    have hem1 : ¬ t.s.toList = [] := by simpa using hem
                    have HS : Hid ((if true = true then nameOk t.s else t.s.toList.isEmpty) = true) := Lib.hid (by simp [hok])
                    clear hok
                    go_enter Try.func72, Try.ntmps72
                    go_wp2_with fail
                    refine HK.out.mono ?_
                    rintro e w1 ⟨rfl, b1⟩
                    obtain ⟨d0, d1, d2, d3, d4⟩ := HT.out _ b1
                    have hz := b1.size
                    have hb2 : b < w1.heap.size := by omega
                    have HB := Lib.hid b1
                    clear b1 c0 c1 c2 c3 c4
                    go_wp2_with fail
                    go_quiet (fail)
                    go_wp2_with (go_at_call 15; refine (HNAME.out _).mono ?_; rintro e w' ⟨rfl, rfl⟩)
                    go_loopw [90] (fun i wr => FitRel w t.ls i wr) (fun i _ => t.ls.length - (intOf i).toNat)
                    case atStart => exact ⟨0, rfl, by omega, rfl, HB.out.trans ((((Below.refl w1.heap.size w1).alloc (Nat.le_refl _) _).trans (drew_below _ _ _)).mono hz)⟩
                    case round =>
                      clear d0 d1 d2 d3 d4
                      obtain ⟨k, rfl, hk, hall, hbel⟩ := hrel
                      have HB2 := Lib.hid hbel
                      have HA := Lib.hid hall
                      clear hbel hall
                      by_cases hlt : k < t.ls.length
                      · obtain ⟨b2, off, hao, l0, l1, l2, l3, l4⟩ := (Trm.LRow.low HIN.out.levels (Tm.In_iff.1 HIN.out).2.2.1 HB2.out).place k hlt
                        have HAO := Lib.hid hao
                        rw [hao]
                        clear hao
                        obtain ⟨x, hx⟩ : ∃ x, x = t.ls[k] := ⟨_, rfl⟩
                        rw [← hx] at l0 l1 l2 l3 l4
                        have hmay := fun w => may_any x w
                        have HNX : Hid (x.may = false → false = G) := Lib.hid (fun hf => HN.out (by
                          have : t.ls.all Lv.may = false := Lvl.all_take_no hlt (by rw [← hx]; exact hf)
                          rw [HR.out, this, Bool.and_false]))
                        have HY : Hid (x.may = true → (t.ls.take (k + 1)).all Lv.may = true) := Lib.hid (fun hf => Lvl.all_take_yes hlt HA.out (by rw [← hx]; exact hf))
                        obtain ⟨r, hr⟩ : ∃ r, r = x.may := ⟨_, rfl⟩
                        rw [← hr] at hmay HNX HY
                        have HM := Lib.hid hmay
                        clear hmay hr hx
                        cases r
                        · go_wp2_with fail
                          unfold Lv.val at HM
                          refine (HM.out _).mono ?_
                          rintro e w3 ⟨rfl, b3⟩
                          have HB3 := Lib.hid ((HB2.out.alloc HB2.out.size x.box).trans (b3.mono (by have := HB2.out.size; simp; omega)))
                          clear b3
                          go_wp2_with fail
                          go_ret
                          exact ⟨ret_bool (HNX.out (by trivial)), HB3.out⟩
                        · go_wp2_with fail
                          unfold Lv.val at HM
                          refine (HM.out _).mono ?_
                          rintro e w3 ⟨rfl, b3⟩
                          have HB3 := Lib.hid ((HB2.out.alloc HB2.out.size x.box).trans (b3.mono (by have := HB2.out.size; simp; omega)))
                          clear b3
                          go_wp2_with fail
                          go_roundw
                          case rel => exact ⟨k + 1, by go_num, by omega, HY.out (by trivial), HB3.out⟩
                          case measure => simp [intOf]; omega
                      · have HE : Hid (true = G) := Lib.hid (by
                          have hall := HA.out
                          rw [List.take_of_length_le (by omega)] at hall
                          rw [HG.out, HR.out, hall, Bool.and_true, HS.out])
                        go_wp2_with fail
                        go_ret
                        exact ⟨ret_bool HE.out, HB2.out⟩
                · rw [hnm] at HR HK
                  clear hnm
                  have HNAME : Hid (∀ w, Calls Try.prog 15 #[.string t.s] w fun e w' => e = .returned (.bool false) ∧ w = w') := Lib.hid (fun w => by rw [← nameOk_no (Or.inl (by have := hem; rw [empty_iff] at this; simpa using this))]; exact Name_any t.s w hss)
                  have hem1 : t.s.toList = [] := by simpa using hem
                  have hok : nameOk t.s = false := nameOk_no (Or.inl (by have := hem; rw [empty_iff] at this; simpa using this))
                  have HF1 := Lib.hid (HN.out (by rw [HR.out]; simp [hok]))
                  clear hok
                  go_enter Try.func72, Try.ntmps72
                  go_wp2_with fail
                  refine HK.out.mono ?_
                  rintro e w1 ⟨rfl, b1⟩
                  obtain ⟨d0, d1, d2, d3, d4⟩ := HT.out _ b1
                  have hz := b1.size
                  have hb2 : b < w1.heap.size := by omega
                  have HB := Lib.hid b1
                  clear b1 c0 c1 c2 c3 c4
                  go_wp2_with fail
                  go_quiet (fail)
                  go_wp2_with (go_at_call 15; refine (HNAME.out _).mono ?_; rintro e w' ⟨rfl, rfl⟩)
                  go_ret
                  exact ⟨ret_bool HF1.out, HB.out.trans ((((Below.refl w1.heap.size w1).alloc (Nat.le_refl _) _).trans (drew_below _ _ _)).mono hz)⟩
end Go.Proofs.Ytijdlihodpodjaa
