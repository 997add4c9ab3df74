/-
  battenref04.inst, Inst, of terms that may be.
-/
import Derived.Test.YtijdlihodpodjaaQSubB
import Derived.Test.YtijdlihodpodjaaQSubA
import Derived.Deep.RegionHeld3
import Derived.Deep.AppendLies
namespace Go.Proofs.Ytijdlihodpodjaa
open Go.RowKit Go.Shelf Lvl Trm

namespace Trm
theorem put_inst_var (l : List Tm) (n u : Int) : (tV n).put (gInst l) u = if u ≤ n then gInst l (n - u) u else tV n := by
  unfold tV
  rw [Tm.put]
  by_cases h1 : u ≤ n
  · rw [if_pos ⟨rfl, h1⟩, if_pos h1]
  · rw [if_neg (fun hh => h1 hh.2), putL, if_neg h1]
end Trm

set_option maxRecDepth 100000 in
set_option maxHeartbeats 8000000 in
theorem RefInst1_any (l : List Tm) (lo : Option Addr) (lc : Nat) (hln : l.length ≤ 1000000) (hlm : ∀ x ∈ l, x.may = true) (B : Nat) (t : Tm) : ∀ (h : Hd) (d u : Int) (w : World), OkMay t d → 0 ≤ u → u ≤ d → t.In B w h → RowIn B w lo 0 l → B ≤ w.heap.size →
    Calls Try.prog 96 #[t.val h, .slice lo l.length lc, .int .i64 u] w (RefPost B w (t.put (gInst l) u)) := by
  induction t using Tm.ind with
  | h t ih =>
    intro h d u w hok hu0 hud hin hrow hBw
    have HIN := Lib.hid hin
    have HIH := Lib.hid ih
    have HOK := Lib.hid hok
    have hd1 := hok.node.2
    have hts := hin.fit.ts
    have hfew := (node_few hok.node.1).1
    have hf3 := (node_few hok.node.1).2.1
    have HRW := Lib.hid hrow
    clear hrow
    by_cases h2 : t.k = 2
    · have hv := node_var hok.node.1 h2
      have hnum := node_num hok.node.1
      obtain ⟨n, rfl⟩ : ∃ n, t = tV n := ⟨_, hv⟩
      change 0 ≤ n ∧ n ≤ 1048576 at hnum
      rw [put_inst_var l n u]
      clear HIH HOK HIN ih hok hin hv h2 hfew hf3 hts
      show Calls Try.prog 96 #[.agg #[.int .u8 2, .int .i64 n, .string ⟨#[]⟩, .slice h.lo 0 h.lc, .slice h.to 0 h.tc], .slice lo l.length lc, .int .i64 u] w _
      obtain ⟨Q, hQ⟩ : ∃ Q, Q = u + l.length := ⟨_, rfl⟩
      have hw0 : IntKind.i64.wrap (u + l.length) = Q := by rw [hQ]; exact IntWalk.i64_in _ (by omega)
      by_cases hge : u ≤ n
      · rw [if_pos hge]
        have d1 : decide (n < u) = false := by simp; omega
        by_cases h4 : n < Q
        · have d2 : decide (n < Q) = true := by simpa using h4
          have hin : 0 ≤ n - u ∧ n - u < l.length := by omega
          have hgi : gInst l (n - u) u = (l[l.length - 1 - (n - u).toNat]'(by omega)).put (gLift 0 u) 0 := by unfold gInst; rw [dif_pos hin]
          rw [hgi]
          obtain ⟨q, hq⟩ : ∃ q : Nat, q = l.length - 1 - (n - u).toNat := ⟨_, rfl⟩
          have hql : q < l.length := by omega
          obtain ⟨x, hx⟩ : ∃ x, x = l[q]'hql := ⟨_, rfl⟩
          have hxe : l[l.length - 1 - (n - u).toNat]'(by omega) = x := by rw [hx]; congr 1; exact hq.symm
          rw [hxe]
          obtain ⟨bl, ol, rfl, hbl, hxh, ⟨p0, p1, p2, p3, p4⟩, hxi⟩ := HRW.out.place q hql
          rw [← hx] at p0 p1 p2 p3 p4 hxi
          rw [Nat.zero_add] at p0 p1 p2 p3 p4
          have hxm : x.may = true := by rw [hx]; exact hlm _ (List.getElem_mem hql)
          obtain ⟨A, hA⟩ : ∃ A, A = (l.length : Int) - 1 := ⟨_, rfl⟩
          obtain ⟨D, hD⟩ : ∃ D, D = n - u := ⟨_, rfl⟩
          have hwA : IntKind.i64.wrap ((l.length : Int) - 1) = A := by rw [hA]; exact IntWalk.i64_in _ (by omega)
          have hwD : IntKind.i64.wrap (n - u) = D := by rw [hD]; exact IntWalk.i64_in _ (by omega)
          have hwq : IntKind.i64.wrap (A - D) = (q : Int) := by rw [show A - D = (q : Int) by omega]; exact IntWalk.i64_in _ (by omega)
          have HX := Lib.hid (fun (W : World) (hW : Below w.heap.size w W) => RefLift_any u (by omega) (by omega) 0 (by decide) (by decide) B x hxh 1 0 0 W (OkMay.start hxm) (Int.le_refl _) (by decide) rfl (Tm.In.below (hW.mono hBw) _ _ hxi) (by have := hW.size; omega))
          have hb2 := below_two w (.cells #[.int .u8 2, .int .i64 n, .string ⟨#[]⟩, .slice h.lo 0 h.lc, .slice h.to 0 h.tc] 25) (.cells #[.int .u8 0, .int .i64 0, .string ⟨#[]⟩, .slice none 0 0, .slice none 0 0] 25)
          have HB2 := Lib.hid hb2
          have HN2 := Lib.hid (new2 w (.cells #[.int .u8 2, .int .i64 n, .string ⟨#[]⟩, .slice h.lo 0 h.lc, .slice h.to 0 h.tc] 25) (.cells #[.int .u8 0, .int .i64 0, .string ⟨#[]⟩, .slice none 0 0, .slice none 0 0] 25))
          have hblz : bl < w.heap.size := by omega
          have hq0' : (0 : Int) ≤ (q : Int) := Int.natCast_nonneg _
          have hq1' : (q : Int) < (l.length : Int) := by omega
          unfold Tm.val Tm.vals at HX
          generalize x.put (gLift 0 u) 0 = y at HX ⊢
          clear hgi hxe hx hxi hb2 hq hA hD hin hge h4 hQ
          go_enter Try.func96, Try.ntmps96
          go_wp2_with fail
          refine (HX.out _ HB2.out).mono ?_
          rintro e w3 ⟨hy, rfl, fY, b3⟩
          have HB3 := Lib.hid (Trm.go HB2.out b3)
          have HN3 := Lib.hid (Lvl.keep b3 HN2.out)
          have HFY := Lib.hid (show FirmS (fun q => B ≤ q ∧ q < w.heap.size + 2) w3 y hy from fY.less (fun q _ hq => ⟨hq.1, by simpa using hq.2⟩))
          obtain ⟨a0, a1, a2, a3, a4⟩ := five_cells HN3.out
          obtain ⟨f0, f1, f2, f3, f4⟩ := five_free HN3.out
          have hl3 : w.heap.size + 1 < w3.heap.size := (Array.getElem?_eq_some_iff.1 HN3.out).1
          clear b3 fY p0 p1 p2 p3 p4
          dsimp only [Tm.val, Tm.vals]
          go_wp2_with fail
          have h5 := putT_self HN3.out (.int .u8 y.k) (.int .i64 y.n) (.string y.s) (.slice hy.lo y.ls.length hy.lc) (.slice hy.to y.ts.length hy.tc)
          have b5 := putT_below HB3.out (by omega : w.heap.size ≤ w.heap.size + 1) (.int .u8 y.k) (.int .i64 y.n) (.string y.s) (.slice hy.lo y.ls.length hy.lc) (.slice hy.to y.ts.length hy.tc)
          have r5 := putT_ran w3 (w.heap.size + 1) (.int .u8 y.k) (.int .i64 y.n) (.string y.s) (.slice hy.lo y.ls.length hy.lc) (.slice hy.to y.ts.length hy.tc)
          unfold putT at h5 b5 r5
          generalize hW : ((((w3.setCell ⟨w.heap.size + 1, 0, none⟩ (.int .u8 y.k)).setCell ⟨w.heap.size + 1, 1, none⟩ (.int .i64 y.n)).setCell ⟨w.heap.size + 1, 2, none⟩ (.string y.s)).setCell ⟨w.heap.size + 1, 3, none⟩ (.slice hy.lo y.ls.length hy.lc)).setCell ⟨w.heap.size + 1, 4, none⟩ (.slice hy.to y.ts.length hy.tc) = W4 at h5 b5 r5 ⊢
          obtain ⟨e0, e1, e2, e3, e4⟩ := five_cells h5
          clear hW
          exact bodyPost_ret (v := y.val hy) (by simp [results, Try.results96, go_sem, e0, e1, e2, e3, e4, Tm.val, Tm.vals]) rfl ⟨hy, rfl, (HFY.out.step (RanS.of_ran r5 ⟨by omega, by omega⟩)).less (fun q _ hq => ⟨hq.1, by have := hq.2; omega⟩), b5⟩
        · have d2 : decide (n < Q) = false := by simpa using h4
          have hgi : gInst l (n - u) u = tV (n - l.length) := by unfold gInst; rw [dif_neg (by omega)]; congr 1; omega
          rw [hgi]
          have hw1 : IntKind.i64.wrap (n - l.length) = n - l.length := IntWalk.i64_in _ (by omega)
          have hm : -9223372036854775808 ≤ n - l.length ∧ n - l.length ≤ 9223372036854775807 := by omega
          clear hge hQ h4 hgi
          go_enter Try.func96, Try.ntmps96
          go_wp2_with fail
          exact bodyPost_ret (v := .agg #[.int .u8 2, .int .i64 (n - l.length), .string ⟨#[]⟩, .slice h.lo 0 h.lc, .slice h.to 0 h.tc]) (by simp [results, Try.results96, go_sem]) rfl ⟨h, rfl, firm_leaf (by decide) (by decide) hm.1 hm.2 (by decide), below_two _ _ _⟩
      · rw [if_neg hge]
        have d1 : decide (n < u) = true := by simp; omega
        have hm : -9223372036854775808 ≤ n ∧ n ≤ 9223372036854775807 := by omega
        clear hge hQ
        go_enter Try.func96, Try.ntmps96
        go_wp2_with fail
        exact bodyPost_ret (v := .agg #[.int .u8 2, .int .i64 (n), .string ⟨#[]⟩, .slice h.lo 0 h.lc, .slice h.to 0 h.tc]) (by simp [results, Try.results96, go_sem]) rfl ⟨h, rfl, firm_leaf (by decide) (by decide) hm.1 hm.2 (by decide), below_two _ _ _⟩
    · have hk2 : (t.k == 2) = false := by simpa using h2
      obtain ⟨Y, hY⟩ : ∃ Y, Y = t.put (gInst l) u := ⟨_, rfl⟩
      obtain ⟨R, hR⟩ : ∃ R, R = putL (gInst l) t.k t.ts 0 u := ⟨_, rfl⟩
      have HYR : Hid (Y = .mk t.k t.n t.s t.ls R) := Lib.hid (by rw [hY, hR]; exact put_node _ _ h2)
      have hRl : R.length = t.ts.length := by rw [hR]; exact putL_length _ _ _ _ _
      have HRJ : Hid (∀ j (hj : j < t.ts.length), R[j]? = some (t.ts[j].put (gInst l) (under t.k j u))) := Lib.hid (fun j hj => by
        subst hR
        rw [List.getElem?_eq_getElem (by rw [putL_length]; exact hj), putL_at _ _ _ _ _ (by omega) j hj, Nat.zero_add])
      rw [← hY]
      have HRL := Lib.hid hRl
      clear hY hR hRl ih hok hin
      obtain ⟨i0, hi, hz0, hz1, hz2⟩ := info_parts infoT
      unfold Tm.val Tm.vals
      go_enter Try.func96, Try.ntmps96
      go_wp2_with fail
      go_loopw [7, 8] (fun v i wr => RowRel B w (t.box h) R v i wr) (fun _ i _ => t.ts.length - (intOf i).toNat)
      case atStart => exact ⟨0, [], rfl, by omega, rfl, rfl, below_two _ _ _, new1of2 _ _ _, new2 _ _ _, ⟨rfl, Or.inl ⟨rfl, rfl⟩⟩, fun p hp => by simp at hp⟩
      case round =>
        obtain ⟨j, ps, rfl, hj, hpl, hmap, hbel, hbx, hbr, hown, hf⟩ := hrel
        have HMAP := Lib.hid hmap
        have HBEL := Lib.hid hbel
        have HBX := Lib.hid hbx
        have HBR := Lib.hid hbr
        have HOW := Lib.hid hown
        have HF := Lib.hid hf
        have HPL := Lib.hid hpl
        have hzr := hbel.size
        have hlt1 : w.heap.size + 1 < wr.heap.size := (Array.getElem?_eq_some_iff.1 hbr).1
        rw [HRL.out] at hj
        clear hmap hbel hbr hown hf
        obtain ⟨c0, c1, c2, c3, c4⟩ := Tm.cells hbx
        by_cases hlt : j < t.ts.length
        · obtain ⟨b, off, hao, hat⟩ := HIN.out.kid j hlt
          obtain ⟨hb, hd', hcx, hin'⟩ := hat.below (HBEL.out.mono hBw)
          rw [hao] at c4
          have HAO := Lib.hid hao
          have HI := Lib.hid hin'
          have hun := bnd_under (K := t.k) (i := j) u
          have hul := under_le t.k j u

          have HX := Lib.hid (fun (W : World) (hW : Below wr.heap.size wr W) => HIH.out _ (List.getElem_mem hlt) hd' (d + 1) (under t.k j u) W (HOK.out.down _ (List.getElem_mem hlt)) (by omega) (by omega) (Tm.In.below (hW.mono (by omega)) _ _ HI.out) (RowIn.below HRW.out ((HBEL.out.mono hBw).trans (hW.mono (by omega)))) (by have := hW.size; omega))
          have HB := Lib.hid (fun (W : World) => RefBinds_any t.k t.n t.s h.lo (some ⟨b, off, none⟩) t.ls.length h.lc t.ts.length h.tc j W)
          have hwr : IntKind.i64.wrap (u + bnd t.k j) = under t.k j u := by rw [hun]; exact IntWalk.i64_in _ (by omega)
          have hwr2 : IntKind.i64.wrap (under t.k j u) = under t.k j u := IntWalk.i64_in _ (by omega)
          have HCX := Lib.hid hcx
          obtain ⟨k0, k1, k2, k3, k4⟩ := hcx
          have HRX := Lib.hid (HRJ.out j hlt)
          clear hat hin' hao hbx hpl
          generalize hyq : t.ts[j].put (gInst l) (under t.k j u) = y at HX HRX
          generalize t.ts[j] = x at k0 k1 k2 k3 k4 HX HI HCX hyq
          unfold Tm.val Tm.vals at HX
          clear hyq
          have hbz : b < wr.heap.size := by omega
          have hbz2 : b < w.heap.size + 2 := by omega
          have five_pos : Hid (0 < 5) := Lib.hid (by decide)
          have hpm : ps.length ≤ 1000000 := by have := HPL.out; omega
          have hq1 : Hid (ps.length + 1 ≤ maxLen) := Lib.hid (by unfold maxLen; omega)
          have hq2 : Hid ((ps.length + 1) * 80 ≤ 140737488355328) := Lib.hid (by omega)
          have hq3 : Hid (w.heap.size + 2 ≤ wr.heap.size) := Lib.hid (by omega)
          have hone : ∀ hy : Hd, ∀ q ∈ (y.vals hy).toList, q.oneCell' = true := fun hy q hq => by
            simp [Tm.vals] at hq
            rcases hq with rfl | rfl | rfl | rfl | rfl <;> rfl
          have HF3 := Lib.hid hf3
          clear hun hul hfew hf3 hts hd1 hu0 hud hln
          go_wp2_with fail
          go_region_held3 (fun w' => w'.cell? ⟨w.heap.size, 0, none⟩ = some (.int .u8 t.k) ∧ w'.cell? ⟨w.heap.size, 1, none⟩ = some (.int .i64 t.n) ∧ w'.cell? ⟨w.heap.size, 2, none⟩ = some (.string t.s) ∧ w'.cell? ⟨w.heap.size, 3, none⟩ = some (.slice h.lo t.ls.length h.lc) ∧ w'.cell? ⟨w.heap.size, 4, none⟩ = some (.slice (some ⟨b, off, none⟩) t.ts.length h.tc) ∧ w'.cell? ⟨b, off + j * 5, none⟩ = some (.int .u8 x.k) ∧ w'.cell? ⟨b, off + j * 5 + 1, none⟩ = some (.int .i64 x.n) ∧ w'.cell? ⟨b, off + j * 5 + 2, none⟩ = some (.string x.s) ∧ w'.cell? ⟨b, off + j * 5 + 3, none⟩ = some (.slice hd'.lo x.ls.length hd'.lc) ∧ w'.cell? ⟨b, off + j * 5 + 4, none⟩ = some (.slice hd'.to x.ts.length hd'.tc))
            (first
              | go_keep
              | (have hb6 := row_below HB4.out HOW.out hgrow hq3.out
                 obtain ⟨c0, c1, c2, c3, c4⟩ := five_cells (show w5.heap[w.heap.size]? = some (.cells #[_, _, _, _, _] 25) from (hb6.block _ (Nat.lt_succ_of_lt (Nat.lt_succ_self _))).trans HBX.out)
                 rw [HAO.out] at c4
                 obtain ⟨k0, k1, k2, k3, k4⟩ := HCX.out.below hb6 hbz2
                 exact ⟨c0, c1, c2, c3, c4, k0, k1, k2, k3, k4⟩))
            (first
              | (go_at_call 79; (with_reducible refine (HB.out _).mono ?_); rintro e w3 ⟨rfl, bw⟩; have HB3 := Lib.hid (show Below wr.heap.size wr w3 from Lvl.undrew bw); clear bw; obtain ⟨c0, c1, c2, c3, c4⟩ := Tm.cells (Lvl.keep HB3.out HBX.out); rw [HAO.out] at c4; obtain ⟨k0, k1, k2, k3, k4⟩ := HCX.out.below HB3.out hbz)
              | (go_at_call 96; (with_reducible refine (HX.out _ HB3.out).mono ?_); rintro e w4 ⟨hy, rfl, fY, bw⟩; have HB4 := Lib.hid (Trm.go HB3.out bw); have HFY := Lib.hid (show FirmS (fun q => B ≤ q ∧ q < wr.heap.size) w4 y hy from fY.less (fun q _ hq => ⟨hq.1, Nat.lt_of_lt_of_le hq.2 HB3.out.size⟩)); clear bw fY; have hz4 := HB4.out.size; obtain ⟨c0, c1, c2, c3, c4⟩ := Tm.cells (Lvl.keep HB4.out HBX.out); rw [HAO.out] at c4; obtain ⟨k0, k1, k2, k3, k4⟩ := HCX.out.below HB4.out hbz; dsimp only [Tm.val, Tm.vals])
              | ((refine step_append_lies _ (by rfl) _ _ _ (by rfl) (w.heap.size + 2) 25 i0 _ 5 80 Try.underlying23 hi hz0 hz1 hz2 rfl five_pos.out _ _ _ (by rfl) (own_below HOW.out (HB4.out.alloc HB4.out.size (.cells #[.int .u8 y.k, .int .i64 y.n, .string y.s, .slice hy.lo y.ls.length hy.lc, .slice hy.to y.ts.length hy.tc] 25))) ⟨w4.heap.size, 0, none⟩ 1 1 (y.vals hy).toList (by rfl) (by rfl) (World.news_of_block (cs := y.vals hy) (t := 25) (fr := (0, 0)) (World.alloc_heap_new w4 _)) (hone _) Nat.one_pos hq1.out hq2.out (by rw [World.size_alloc]; exact Nat.le_trans hq3.out (Nat.le_succ_of_le hz4)) (w4.heap.size + 1) (World.size_alloc _ _) ?_); intro g cap w5 hown5 hgrow hat5 hlt5))
          have hf3 := HF3.out
          go_wp2_with fail
          go_roundw
          case rel => exact RowRel.step HRL.out HRX.out hlt HPL.out HMAP.out HBEL.out HBX.out HBR.out HOW.out HF.out HB4.out HFY.out (by omega) (by omega) rfl hown5 hgrow hat5 (by clear hwr hwr2; go_num)
          case measure => clear hwr hwr2; simp [intOf]; omega
        · have hje : j = t.ts.length := by omega
          have hfit := HIN.out.fit
          have HLR := Lib.hid (LRow.low HIN.out.levels (Tm.In_iff.1 HIN.out).2.2.1 (HBEL.out.mono hBw))
          obtain ⟨to, tc, rfl, hfn⟩ := firm_node (P := fun q => B ≤ q ∧ q < w.heap.size + 2) (Q := fun q => B ≤ q ∧ (q < w.heap.size + 2 ∨ u7.ownBlock = some q)) (B := B) (k := t.k) (n := t.n) (s := t.s) (ls := t.ls) (lc := h.lc) HOW.out hfit.k0 hfit.k1 hfit.n0 hfit.n1 hfit.s hfit.ls HLR.out (Tm.In_iff.1 HIN.out).2.2.1 (by omega) (fun q hq => hq.1) (fun q hq => by have := hq.2; omega) (fun q hq => ⟨hq.1, Or.inl (by have := hq.2; omega)⟩) HF.out (by have := HPL.out; omega)
          have hps : ps.map (·.1) = R := by rw [HMAP.out]; exact List.take_of_length_le (by have := HRL.out; omega)
          rw [hps, ← HYR.out] at hfn
          have HFN := Lib.hid hfn
          have hyl : ps.length = Y.ts.length := by rw [HYR.out]; show _ = R.length; rw [HRL.out, HPL.out, hje]
          rw [hyl]
          have HYE : Hid (Value.agg #[.int .u8 t.k, .int .i64 t.n, .string t.s, .slice h.lo t.ls.length h.lc, .slice to Y.ts.length tc] = Y.val ⟨h.lo, h.lc, to, tc⟩) := Lib.hid (by rw [HYR.out]; rfl)
          clear hfit hfn hps hpl hyl
          go_wp2_with fail
          refine (with_any _ _ _ _ _ _ _ _ _ _ _ _ _).mono ?_
          rintro e w6 ⟨rfl, b6⟩
          have HB6 := Lib.hid (Trm.go HBEL.out b6)
          have HR6 := Lib.hid (Lvl.keep b6 HBR.out)
          have HF6 := Lib.hid (HFN.out.step (RanS.of_below b6))
          obtain ⟨a0, a1, a2, a3, a4⟩ := five_cells HR6.out
          obtain ⟨f0, f1, f2, f3, f4⟩ := five_free HR6.out
          have hz6 := b6.size
          clear b6 c0 c1 c2 c3 c4
          go_wp2_with fail
          have h5 := putT_self HR6.out (.int .u8 t.k) (.int .i64 t.n) (.string t.s) (.slice h.lo t.ls.length h.lc) (.slice to Y.ts.length tc)
          have b5 := putT_below HB6.out (by omega : w.heap.size ≤ w.heap.size + 1) (.int .u8 t.k) (.int .i64 t.n) (.string t.s) (.slice h.lo t.ls.length h.lc) (.slice to Y.ts.length tc)
          have r5 := putT_ran w6 (w.heap.size + 1) (.int .u8 t.k) (.int .i64 t.n) (.string t.s) (.slice h.lo t.ls.length h.lc) (.slice to Y.ts.length tc)
          unfold putT at h5 b5 r5
          generalize hW : ((((w6.setCell ⟨w.heap.size + 1, 0, none⟩ (.int .u8 t.k)).setCell ⟨w.heap.size + 1, 1, none⟩ (.int .i64 t.n)).setCell ⟨w.heap.size + 1, 2, none⟩ (.string t.s)).setCell ⟨w.heap.size + 1, 3, none⟩ (.slice h.lo t.ls.length h.lc)).setCell ⟨w.heap.size + 1, 4, none⟩ (.slice to Y.ts.length tc) = W4 at h5 b5 r5 ⊢
          obtain ⟨e0, e1, e2, e3, e4⟩ := five_cells h5
          clear hW
          refine bodyPost_ret (v := .agg #[.int .u8 t.k, .int .i64 t.n, .string t.s, .slice h.lo t.ls.length h.lc, .slice to Y.ts.length tc]) (by simp [results, Try.results96, go_sem, e0, e1, e2, e3, e4]) rfl ⟨_, by rw [HYE.out], (HF6.out.step (RanS.of_ran r5 ⟨by omega, by omega⟩)).less (fun q _ hq => ⟨hq.1, by have := hq.2; omega⟩), b5⟩

set_option maxRecDepth 100000 in
theorem RefTInst_any (l : List Tm) (lo : Option Addr) (lc : Nat) (hln : l.length ≤ 1000000) (hlm : ∀ x ∈ l, x.may = true) (t : Tm) (h : Hd) (w : World) (hmay : t.may = true) (hin : t.In w.heap.size w h) (hrow : RowIn w.heap.size w lo 0 l) :
    Calls Try.prog 42 #[t.val h, .slice lo l.length lc] w (RefPost w.heap.size w (t.put (gInst l) 0)) := by
  have HX := Lib.hid (fun (W : World) (hW : Below w.heap.size w W) => RefInst1_any l lo lc hln hlm w.heap.size t h 1 0 W (OkMay.start hmay) (Int.le_refl _) (by decide) (Tm.In.below hW _ _ hin) (RowIn.below hrow hW) hW.size)
  have HB2 := Lib.hid (below_two w (t.box h) (.cells #[.int .u8 0, .int .i64 0, .string ⟨#[]⟩, .slice none 0 0, .slice none 0 0] 25))
  have HN2 := Lib.hid (new2 w (t.box h) (.cells #[.int .u8 0, .int .i64 0, .string ⟨#[]⟩, .slice none 0 0, .slice none 0 0] 25))
  unfold Tm.val Tm.vals at HX ⊢
  generalize t.put (gInst l) 0 = y at HX ⊢
  clear hin hrow hmay hlm
  go_enter Try.func42, Try.ntmps42
  go_wp2_with fail
  refine (HX.out _ HB2.out).mono ?_
  rintro e w3 ⟨hy, rfl, fY, b3⟩
  have HB3 := Lib.hid (Trm.go HB2.out b3)
  have HN3 := Lib.hid (Lvl.keep b3 HN2.out)
  have HFY := Lib.hid (show FirmS (fun q => w.heap.size ≤ q ∧ q < w.heap.size + 2) w3 y hy from fY.less (fun q _ hq => ⟨hq.1, by simpa using hq.2⟩))
  obtain ⟨a0, a1, a2, a3, a4⟩ := five_cells HN3.out
  obtain ⟨f0, f1, f2, f3, f4⟩ := five_free HN3.out
  have hl3 : w.heap.size + 1 < w3.heap.size := (Array.getElem?_eq_some_iff.1 HN3.out).1
  clear b3 fY
  dsimp only [Tm.val, Tm.vals]
  go_wp2_with fail
  have h5 := putT_self HN3.out (.int .u8 y.k) (.int .i64 y.n) (.string y.s) (.slice hy.lo y.ls.length hy.lc) (.slice hy.to y.ts.length hy.tc)
  have b5 := putT_below HB3.out (by omega : w.heap.size ≤ w.heap.size + 1) (.int .u8 y.k) (.int .i64 y.n) (.string y.s) (.slice hy.lo y.ls.length hy.lc) (.slice hy.to y.ts.length hy.tc)
  have r5 := putT_ran w3 (w.heap.size + 1) (.int .u8 y.k) (.int .i64 y.n) (.string y.s) (.slice hy.lo y.ls.length hy.lc) (.slice hy.to y.ts.length hy.tc)
  unfold putT at h5 b5 r5
  generalize hW : ((((w3.setCell ⟨w.heap.size + 1, 0, none⟩ (.int .u8 y.k)).setCell ⟨w.heap.size + 1, 1, none⟩ (.int .i64 y.n)).setCell ⟨w.heap.size + 1, 2, none⟩ (.string y.s)).setCell ⟨w.heap.size + 1, 3, none⟩ (.slice hy.lo y.ls.length hy.lc)).setCell ⟨w.heap.size + 1, 4, none⟩ (.slice hy.to y.ts.length hy.tc) = W4 at h5 b5 r5 ⊢
  obtain ⟨e0, e1, e2, e3, e4⟩ := five_cells h5
  clear hW
  exact bodyPost_ret (v := y.val hy) (by simp [results, Try.results42, go_sem, e0, e1, e2, e3, e4, Tm.val, Tm.vals]) rfl ⟨hy, rfl, (HFY.out.step (RanS.of_ran r5 ⟨by omega, by omega⟩)).less (fun q _ hq => ⟨hq.1, by have := hq.2; omega⟩), b5⟩
end Go.Proofs.Ytijdlihodpodjaa
