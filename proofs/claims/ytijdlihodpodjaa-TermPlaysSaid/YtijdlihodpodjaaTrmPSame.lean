/-
  slices.Equal of levels; term.Same.
-/
import Derived.Test.YtijdlihodpodjaaTrmSame
import Derived.Test.YtijdlihodpodjaaTrmPSize
import Derived.Laws.EntriesVeiled
namespace Go.Proofs.Ytijdlihodpodjaa
open Go.RowKit Go.Shelf Lvl Trm

/-- wr is w behind some draws. -/
def Trm.Drawn (w wr : World) : Prop := ∃ n, wr = w.drewN n
theorem Trm.Drawn.refl (w : World) : Drawn w w := ⟨0, by simp [World.drewN]⟩
theorem Trm.Drawn.of (w : World) (n : Nat) : Drawn w (w.drewN n) := ⟨n, rfl⟩
theorem Trm.Drawn.more {w wr : World} (h : Drawn w wr) (n : Nat) : Drawn w (wr.drewN n) := by
  obtain ⟨a, rfl⟩ := h
  exact ⟨a + n, by rw [World.drewN_drewN]⟩
theorem Trm.Drawn.heap {w wr : World} (h : Drawn w wr) : wr.heap = w.heap := by
  obtain ⟨a, rfl⟩ := h
  simp [World.drewN]
theorem Trm.Drawn.below {w wr : World} (h : Drawn w wr) (B : Nat) : Below B w wr := by
  obtain ⟨a, rfl⟩ := h
  exact drew_below _ _ _
theorem Trm.cell_heap {w wr : World} (h : wr.heap = w.heap) (p : Addr) : wr.cell? p = w.cell? p := by simp [World.cell?, h]
theorem Trm.LAt.heap {w wr : World} {b o : Nat} {l : Lv} (h : wr.heap = w.heap) (g : LAt w b o l) : LAt wr b o l :=
  ⟨(cell_heap h _).trans g.1, (cell_heap h _).trans g.2.1, (cell_heap h _).trans g.2.2.1, (cell_heap h _).trans g.2.2.2.1, (cell_heap h _).trans g.2.2.2.2⟩
theorem Trm.LRow.heap {w wr : World} {ao : Option Addr} {ls : List Lv} (h : wr.heap = w.heap) (g : LRow w ao ls) : LRow wr ao ls := by
  refine ⟨fun k hk => ?_⟩
  obtain ⟨b, off, hao, ha⟩ := g.place k hk
  exact ⟨b, off, hao, LAt.heap h ha⟩
theorem Trm.TCells.heap {w wr : World} {b o : Nat} {t : Tm} {h : Hd} (e : wr.heap = w.heap) (c : TCells w b o t h) : TCells wr b o t h :=
  ⟨(cell_heap e _).trans c.c0, (cell_heap e _).trans c.c1, (cell_heap e _).trans c.c2, (cell_heap e _).trans c.c3, (cell_heap e _).trans c.c4⟩
theorem Trm.In.heap {B : Nat} {w wr : World} (e : wr.heap = w.heap) (t : Tm) : ∀ h, t.In B w h → t.In B wr h := by
  induction t using Tm.ind with
  | h t ih =>
    intro h hi
    obtain ⟨h1, h2, h3, h4⟩ := Tm.In_iff.1 hi
    refine Tm.In_iff.2 ⟨h1, LRow.heap e h2, h3, RowIn.mk fun k hk => ?_⟩
    obtain ⟨b, off, hao, hb, h', hc, hin⟩ := h4.place k hk
    exact ⟨b, off, hao, hb, h', TCells.heap e hc, ih _ (List.getElem_mem hk) h' hin⟩

noncomputable def Trm.sameL (a b : List Lv) : Bool := @decide (a = b) (Classical.propDecidable _)
theorem Trm.sameL_iff {a b : List Lv} : sameL a b = true ↔ a = b := by unfold sameL; simp
theorem Trm.sameL_yes {a b : List Lv} (h : a = b) : true = sameL a b := (sameL_iff.2 h).symm
theorem Trm.sameL_no {a b : List Lv} (h : ¬ a = b) : false = sameL a b := by
  cases hs : sameL a b
  · rfl
  · exact absurd (sameL_iff.1 hs) h

def Trm.EqRel (w : World) (ls ls' : List Lv) (i : Value) (wr : World) : Prop :=
  ∃ k : Nat, i = .int .i64 k ∧ k ≤ ls.length ∧ ls.take k = ls'.take k ∧ Drawn w wr

set_option maxRecDepth 100000 in
set_option maxHeartbeats 2000000 in
theorem Equal_any (ao bo : Option Addr) (ca cb : Nat) (la lb : List Lv) (w : World) (ha : LRow w ao la) (hb : LRow w bo lb) (hna : la.length ≤ 9223372036854775807) :
    Calls Try.prog 69 #[.slice ao la.length ca, .slice bo lb.length cb] w fun e w' => e = .returned (.bool (sameL la lb)) ∧ Drawn w w' := by
  obtain ⟨G, hG⟩ : ∃ G, G = sameL la lb := ⟨_, rfl⟩
  rw [← hG]
  have HG := Lib.hid hG
  have HA := Lib.hid ha
  have HB := Lib.hid hb
  clear hG ha hb
  have HN : Hid (¬ la = lb → false = G) := Lib.hid (fun hn => by rw [HG.out]; exact sameL_no hn)
  by_cases hl : la.length = lb.length
  · have HL := Lib.hid hl
    rw [← hl]
    clear hl
    go_enter Try.func69, Try.ntmps69
    go_wp2_with fail
    go_loopw [13] (fun i wr => EqRel w la lb i wr) (fun i _ => la.length - (intOf i).toNat)
    case atStart => exact ⟨0, rfl, by omega, rfl, Drawn.refl _⟩
    case round =>
      obtain ⟨k, rfl, hk, htk, hdr⟩ := hrel
      have HT := Lib.hid htk
      have HD := Lib.hid hdr
      clear htk hdr
      by_cases hlt : k < la.length
      · have hlt' : k < lb.length := by have := HL.out; omega
        obtain ⟨b1, off1, hao1, l0, l1, l2, l3, l4⟩ := (Trm.LRow.heap HD.out.heap HA.out).place k hlt
        obtain ⟨b2, off2, hao2, m0, m1, m2, m3, m4⟩ := (Trm.LRow.heap HD.out.heap HB.out).place k hlt'
        have HY : Hid (la[k] = lb[k] → la.take (k + 1) = lb.take (k + 1)) := Lib.hid (take_same hlt hlt' HT.out)
        have HF : Hid (¬ la[k] = lb[k] → false = G) := Lib.hid (fun hn => HN.out fun e => hn (by subst e; rfl))
        generalize la[k] = x at l0 l1 l2 l3 l4 HY HF
        generalize lb[k] = y at m0 m1 m2 m3 m4 HY HF
        subst hao1
        subst hao2
        by_cases hxy : x = y
        · subst hxy
          have hsame := eq_self x.p0 x.p1 x.p2 x.p3
          have HY1 := Lib.hid (HY.out rfl)
          clear HF HY hlt'
          go_wp2_with fail
          go_quiet (fail)
          go_wp2_with fail
          go_roundw
          case rel => exact ⟨k + 1, by go_num, by omega, HY1.out, HD.out.more _⟩
          case measure => simp [intOf]; omega
        · have HF1 := Lib.hid (HF.out hxy)
          have hne : ((x.c == y.c) && (x.p0 == y.p0 && x.p1 == y.p1 && x.p2 == y.p2 && x.p3 == y.p3)) = false := by
            rw [Bool.eq_false_iff]
            intro hh
            simp only [Bool.and_eq_true, beq_iff_eq] at hh
            exact hxy (Lv.ext_all hh.1 hh.2.1.1.1 hh.2.1.1.2 hh.2.1.2 hh.2.2)
          have harr := eq_arr 9997 x.p0 x.p1 x.p2 x.p3 y.p0 y.p1 y.p2 y.p3
          generalize (x.p0 == y.p0 && x.p1 == y.p1 && x.p2 == y.p2 && x.p3 == y.p3) = r at hne harr
          have harr' : ∀ w, (Op.equalIn 9999 81 (.agg #[.int .i64 x.p0, .int .i64 x.p1, .int .i64 x.p2, .int .i64 x.p3]) (.agg #[.int .i64 y.p0, .int .i64 y.p1, .int .i64 y.p2, .int .i64 y.p3])).run Try.prog w = .ok r w := harr
          clear harr
          clear HF HY hlt' hxy
          by_cases hc : x.c = y.c
          · have hc' : (x.c == y.c) = true := by simpa using hc
            have hr : r = false := by rw [hc'] at hne; simpa using hne
            subst hr
            clear hne hc
            go_wp2_with fail
            go_quiet (fail)
            go_wp2_with fail
            go_ret
            exact ⟨ret_bool HF1.out, HD.out.more _⟩
          · have hc' : (x.c == y.c) = false := by simpa using hc
            clear hne hc
            go_wp2_with fail
            go_quiet (fail)
            go_wp2_with fail
            go_ret
            exact ⟨ret_bool HF1.out, HD.out.more _⟩
      · have HE : Hid (true = G) := Lib.hid (by
          rw [HG.out]
          exact sameL_yes (all_same HL.out (by omega) HT.out))
        go_wp2_with fail
        go_ret
        exact ⟨ret_bool HE.out, HD.out⟩
  · have HF1 := Lib.hid (HN.out (fun e => hl (by rw [e])))
    have q : ((la.length : Int) != lb.length) = true := by simp; omega
    clear hl
    go_enter Try.func69, Try.ntmps69
    go_wp2_with fail
    go_ret
    exact ⟨ret_bool HF1.out, Drawn.refl _⟩

def Trm.TsDr (w : World) (ls ls' : List Tm) (i : Value) (wr : World) : Prop :=
  ∃ k : Nat, i = .int .i64 k ∧ k ≤ ls.length ∧ ls.take k = ls'.take k ∧ Drawn w wr

set_option maxRecDepth 100000 in
set_option maxHeartbeats 8000000 in
theorem same1_any (C : Nat) (x : Tm) : ∀ (y : Tm) (b o b' o' B : Nat) (w : World), TAt B w b o x → TAt B w b' o' y → w.heap[C]? = some (.cells #[fnv 68 C] 78) →
    Calls Try.prog 68 #[.pointer (some ⟨b, o, none⟩), .pointer (some ⟨b', o', none⟩), .pointer (some ⟨C, 0, none⟩)] w fun e w' => e = .returned (.bool (same x y)) ∧ Drawn w w' := by
  induction x using Tm.ind with
  | h x ih =>
    intro y b o b' o' B w hx hy hC
    have HIH := Lib.hid ih
    clear ih
    obtain ⟨hb, h, hcx, hin⟩ := hx
    obtain ⟨hb', h', hcy, hin'⟩ := hy
    have HCX := Lib.hid hcx
    have HCY := Lib.hid hcy
    obtain ⟨c0, c1, c2, c3, c4⟩ := hcx
    obtain ⟨d0, d1, d2, d3, d4⟩ := hcy
    have hls := hin.fit.ls
    have hts := hin.fit.ts
    have HIN := Lib.hid hin
    have HIN' := Lib.hid hin'
    have HC := Lib.hid hC
    clear hin hin' hC hb hb'
    obtain ⟨G, hG⟩ : ∃ G, G = same x y := ⟨_, rfl⟩
    rw [← hG]
    have HG := Lib.hid hG
    clear hG
    have HN : Hid (¬ x = y → false = G) := Lib.hid (fun hn => by rw [HG.out]; exact same_no hn)
    by_cases h1 : x.k = y.k
    · have H1 := Lib.hid h1
      have q1 : (x.k != y.k) = false := by simpa using h1
      rw [← h1] at d0
      by_cases h2 : x.n = y.n
      · have H2 := Lib.hid h2
        rw [← h2] at d1
        by_cases h3 : x.s = y.s
        · have H3 := Lib.hid h3
          rw [← h3] at d2
          clear h1 h2 h3 q1
          have HE := Lib.hid (fun (W : World) (hW : W.heap = w.heap) => Equal_any h.lo h'.lo h.lc h'.lc x.ls y.ls W (Trm.LRow.heap hW HIN.out.levels) (Trm.LRow.heap hW HIN'.out.levels) hls)
          cases hle : sameL x.ls y.ls
          · have HF1 := Lib.hid (HN.out (fun e => by rw [sameL_iff.2 (by rw [e])] at hle; cases hle))
            rw [hle] at HE
            clear hle
            go_enter Try.func68, Try.ntmps68
            go_wp2_with fail
            go_quiet ((go_at_call 69; exact Calls.quiet_of (HE.out _ (by first | rfl | simp [World.drewN]))))
            go_wp2_with fail
            go_ret
            exact ⟨ret_bool HF1.out, Drawn.of _ _⟩
          · have HLS := Lib.hid (sameL_iff.1 hle)
            rw [hle] at HE
            clear hle
            by_cases h5 : x.ts.length = y.ts.length
            · have H5 := Lib.hid h5
              rw [← h5] at d4
              clear h5
              go_enter Try.func68, Try.ntmps68
              go_wp2_with fail
              go_quiet ((go_at_call 69; exact Calls.quiet_of (HE.out _ (by first | rfl | simp [World.drewN]))))
              go_wp2_with fail
              clear c0 c1 c2 c3 c4 d0 d1 d2 d3 d4
              go_loopw [68] (fun i wr => TsDr w x.ts y.ts i wr) (fun i _ => x.ts.length - (intOf i).toNat)
              case atStart => exact ⟨0, rfl, by omega, rfl, Drawn.of _ _⟩
              case round =>
                obtain ⟨k, rfl, hk, htk, hdr⟩ := hrel
                have HT := Lib.hid htk
                have HD := Lib.hid hdr
                clear htk hdr
                obtain ⟨_, _, _, _, c4⟩ := TCells.heap HD.out.heap HCX.out
                obtain ⟨_, _, _, _, d4⟩ := TCells.heap HD.out.heap HCY.out
                rw [← H5.out] at d4
                have hcc := one_cell (show wr.heap[C]? = _ by rw [HD.out.heap]; exact HC.out)
                by_cases hlt : k < x.ts.length
                · have hlt' : k < y.ts.length := by have := H5.out; omega
                  obtain ⟨b1, off1, hao1, at1⟩ := (Trm.In.heap HD.out.heap _ _ HIN.out).kid k hlt
                  obtain ⟨b2, off2, hao2, at2⟩ := (Trm.In.heap HD.out.heap _ _ HIN'.out).kid k hlt'
                  rw [hao1] at c4
                  rw [hao2] at d4
                  clear hao1 hao2
                  have HY : Hid (x.ts[k] = y.ts[k] → x.ts.take (k + 1) = y.ts.take (k + 1)) := Lib.hid (take_same hlt hlt' HT.out)
                  have HF : Hid (¬ x.ts[k] = y.ts[k] → false = G) := Lib.hid (fun hn => HN.out fun e => hn (by subst e; rfl))
                  have HZ : Hid (∀ W : World, W.heap = wr.heap → Calls Try.prog 68 #[.pointer (some ⟨b1, off1 + k * 5, none⟩), .pointer (some ⟨b2, off2 + k * 5, none⟩), .pointer (some ⟨C, 0, none⟩)] W fun e w' => e = .returned (.bool (same x.ts[k] y.ts[k])) ∧ Drawn W w') :=
                    Lib.hid (fun W hW => HIH.out _ (List.getElem_mem hlt) y.ts[k] b1 (off1 + k * 5) b2 (off2 + k * 5) B W (by obtain ⟨p1, p2, p3, p4⟩ := at1; exact ⟨p1, p2, TCells.heap hW p3, Trm.In.heap hW _ _ p4⟩) (by obtain ⟨p1, p2, p3, p4⟩ := at2; exact ⟨p1, p2, TCells.heap hW p3, Trm.In.heap hW _ _ p4⟩) (by rw [hW, HD.out.heap]; exact HC.out))
                  clear at1 at2
                  generalize x.ts[k] = p at HY HF HZ
                  generalize y.ts[k] = q at HY HF HZ
                  clear hlt'
                  cases hr : same p q
                  · have HF1 := Lib.hid (HF.out (fun e => by rw [same_iff.2 e] at hr; cases hr))
                    rw [hr] at HZ
                    clear hr HF HY
                    go_wp2_with fail
                    go_quiet ((go_at_call 68; exact Calls.quiet_of (HZ.out _ (by first | rfl | simp [World.drewN]))))
                    go_wp2_with fail
                    go_ret
                    exact ⟨ret_bool HF1.out, HD.out.more _⟩
                  · have HY1 := Lib.hid (HY.out (same_iff.1 hr))
                    rw [hr] at HZ
                    clear hr HF HY
                    go_wp2_with fail
                    go_quiet ((go_at_call 68; exact Calls.quiet_of (HZ.out _ (by first | rfl | simp [World.drewN]))))
                    go_wp2_with fail
                    go_roundw
                    case rel => exact ⟨k + 1, by go_num, by omega, HY1.out, HD.out.more _⟩
                    case measure => simp [intOf]; omega
                · have HE1 : Hid (true = G) := Lib.hid (by
                    rw [HG.out]
                    exact same_yes (Tm.ext H1.out H2.out H3.out HLS.out (all_same H5.out (by omega) HT.out)))
                  go_wp2_with fail
                  go_ret
                  exact ⟨ret_bool HE1.out, HD.out⟩
            · have HF1 := Lib.hid (HN.out (fun e => h5 (by rw [e])))
              have q5 : ((x.ts.length : Int) != y.ts.length) = true := by simp; omega
              clear h5
              go_enter Try.func68, Try.ntmps68
              go_wp2_with fail
              go_quiet ((go_at_call 69; exact Calls.quiet_of (HE.out _ (by first | rfl | simp [World.drewN]))))
              go_wp2_with fail
              go_ret
              exact ⟨ret_bool HF1.out, Drawn.of _ _⟩
        · have HF1 := Lib.hid (HN.out (fun e => h3 (by rw [e])))
          have q3 : (x.s.toList == y.s.toList) = false := by
            rw [beq_eq_false_iff_ne]
            exact fun e => h3 (Go.WideShapes.bytes_inj (by rwa [ByteArray.toList_eq, ByteArray.toList_eq] at e))
          clear h1 h2 h3 q1
          go_enter Try.func68, Try.ntmps68
          go_wp2_with fail
          go_quiet (fail)
          go_wp2_with fail
          go_ret
          exact ⟨ret_bool HF1.out, Drawn.of _ _⟩
      · have HF1 := Lib.hid (HN.out (fun e => h2 (by rw [e])))
        have q2 : (x.n != y.n) = true := by simpa using h2
        clear h1 h2 q1
        go_enter Try.func68, Try.ntmps68
        go_wp2_with fail
        go_quiet (fail)
        go_wp2_with fail
        go_ret
        exact ⟨ret_bool HF1.out, Drawn.of _ _⟩
    · have HF1 := Lib.hid (HN.out (fun e => h1 (by rw [e])))
      have q1 : (x.k != y.k) = true := by simpa using h1
      clear h1
      go_enter Try.func68, Try.ntmps68
      go_wp2_with fail
      go_quiet (fail)
      go_wp2_with fail
      go_ret
      exact ⟨ret_bool HF1.out, Drawn.of _ _⟩

set_option maxRecDepth 100000 in
set_option maxHeartbeats 1000000 in
theorem PSame_any (a b : Tm) (h h' : Hd) (w : World) (hin : a.In w.heap.size w h) (hin' : b.In w.heap.size w h') :
    Calls Try.prog 17 #[a.val h, b.val h'] w fun e w' => e = .returned (.bool (a.may && same a b)) ∧ Below w.heap.size w w' := by
  have HM := Lib.hid (fun (W : World) (hW : Below w.heap.size w W) => PMay_any a h W (Tm.In.mono hW.size _ _ (Tm.In.below hW _ _ hin)))
  have HS := Lib.hid (fun (W : World) (hW : Below w.heap.size w W) (h1 : W.heap[w.heap.size]? = some (a.box h)) (h2 : W.heap[w.heap.size + 1]? = some (b.box h')) (C : Nat) (hC : W.heap[C]? = some (.cells #[fnv 68 C] 78)) =>
    same1_any C a b w.heap.size 0 (w.heap.size + 1) 0 W.heap.size W ⟨(Array.getElem?_eq_some_iff.1 h1).1, h, Tm.cells h1, Tm.In.mono hW.size _ _ (Tm.In.below hW _ _ hin)⟩ ⟨(Array.getElem?_eq_some_iff.1 h2).1, h', Tm.cells h2, Tm.In.mono hW.size _ _ (Tm.In.below hW _ _ hin')⟩ hC)
  clear hin hin'
  cases hm : a.may
  · rw [hm] at HM
    rw [Bool.false_and]
    clear hm HS
    unfold Tm.val at HM ⊢
    dsimp only [Tm.vals] at HM ⊢
    go_enter Try.func17, Try.ntmps17
    go_wp2_with fail
    refine (HM.out _ (below_two w _ _)).mono ?_
    rintro e w1 ⟨rfl, b1⟩
    have HB := Lib.hid ((below_two w _ _).trans (b1.mono (by simp; omega)))
    clear b1
    go_wp2_with fail
    go_ret
    exact ⟨rfl, HB.out⟩
  · rw [hm] at HM
    rw [Bool.true_and]
    generalize same a b = r at HS ⊢
    clear hm
    unfold Tm.box at HS
    unfold Tm.val at HM ⊢
    dsimp only [Tm.vals] at HM HS ⊢
    go_enter Try.func17, Try.ntmps17
    go_wp2_with fail
    refine (HM.out _ (below_two w _ _)).mono ?_
    rintro e w1 ⟨rfl, b1⟩
    have hb1 := (below_two w _ _).trans (b1.mono (B' := w.heap.size) (by simp; omega))
    have HB := Lib.hid hb1
    have hb2 := hb1.trans ((below_one w1 (.cells #[fnv 68 w1.heap.size] 78)).mono hb1.size)
    have HX := Lib.hid (HS.out _ hb2 (keepA (Lvl.keep b1 (new1of2 w _ _)) _) (keepA (Lvl.keep b1 (new2 w _ _)) _) w1.heap.size (World.alloc_heap_new _ _))
    clear b1 hb1
    have HB2 := Lib.hid hb2
    clear hb2
    go_wp2_with fail
    refine HX.out.mono ?_
    rintro e w2 ⟨rfl, d2⟩
    have HD := Lib.hid d2
    clear d2
    go_wp2_with fail
    go_ret
    exact ⟨rfl, HB2.out.trans (HD.out.below _)⟩
end Go.Proofs.Ytijdlihodpodjaa
