/-
  battenlaw05.ArenaSame: the walk.
-/
import Derived.Test.YtgbegbjlbheieaaQArnWorks
import Derived.Test.YtgbegbjlbheieaaQArnVast
import Derived.Test.YtgbegbjlbheieaaQArnSameM
import Derived.Test.YtgbegbjlbheieaaQArnGet2
import Derived.Test.YtgbegbjlbheieaaQB4
namespace Go.Proofs.Ytgbegbjlbheieaa
open Go.RowKit Go.Shelf Go.Maps Lvl Trm Arn

namespace Arn
def SRel1 (w : World) (A : Nat) (l : List Tm) (v i : Value) (wr : World) : Prop := ∃ (k : Nat) (va : Value) (mo : Option Nat), i = .int .i64 k ∧ k ≤ l.length ∧ SS w wr A (puts (l.take k)) v k (entV (puts l) (l.take k)) va mo
/-- Beside the slice of numbers as it is now. -/
def SRel2 (w : World) (A : Nat) (l M : List Tm) (v i : Value) (wr : World) : Prop := ∃ (k : Nat) (va : Value) (mo : Option Nat), i = .int .i64 k ∧ k ≤ l.length ∧ SS w wr A M v l.length (entV M l) va mo
theorem num_part {L : List Tm} (h : OkL L) {t y : Tm} (ht : t ∈ L) (hy : y ∈ t.ts) : num L y < num L t := by
  have h1 := h.kids (num L t) (num_lt ht) y (by rw [num_get ht]; exact hy)
  have h2 := num_prefix (List.take_prefix (num L t) L) h1
  have h3 := num_lt h1
  rw [List.length_take] at h3
  omega
end Arn

set_option maxRecDepth 100000 in
set_option maxHeartbeats 16000000 in
theorem law_arena_same (l : List Tm) (lo : Option Addr) (lc : Nat) (w : World) (hin : RowIn w.heap.size w lo 0 l) :
    Calls Try.prog 4 #[.slice lo l.length lc] w fun e w' => e = .returned (.bool true) ∧ Below w.heap.size w w' := by
  have HIN := Lib.hid hin
  have HV := Lib.hid (Vast_any l lo lc 40 4000 w hin (by decide))
  obtain ⟨V, hV⟩ : ∃ V, V = vast l 40 4000 := ⟨_, rfl⟩
  rw [← hV] at HV
  have HNV := Lib.hid hV
  clear hV hin
  go_enter Try.func4, Try.ntmps4
  go_wp2_with fail
  refine HV.out.mono ?_
  rintro e w1 ⟨rfl, b1⟩
  have H1 := Lib.hid b1
  clear b1
  cases V
  · have hsz : sizeL l ≤ 4000 ∧ l.length ≤ 40 ∧ l.any Tm.deep = false := by
      have h1 := HNV.out
      unfold vast at h1
      have h2 := h1.symm
      simp only [Bool.or_eq_false_iff, decide_eq_false_iff_not] at h2
      obtain ⟨h3, h4, h5⟩ := h2
      exact ⟨by omega, by omega, h4⟩
    have HSZ := Lib.hid hsz.1
    have HDP := Lib.hid hsz.2.2
    have hl40 := hsz.2.1
    clear hsz HV HNV
    go_wp2_with fail
    refine (New_any _).mono ?_
    rintro e w2 ⟨rfl, hw2⟩
    obtain ⟨A, hA⟩ : ∃ A, A = w1.heap.size := ⟨_, rfl⟩
    have HC2 : Hid (SS w w2 A [] (.slice none 0 0) 0 [] (.slice none 0 0) none) := Lib.hid (by
      have hs := H1.out.size
      rw [hw2, hA]
      refine ⟨made w1, ?_, World.ownsRow_nil _ _ _ _, fun q hq => by simp [Value.ownBlock] at hq, Trm.go H1.out (below_one _ _)⟩
      rintro q (rfl | hq | hq)
      · exact hs
      · simp [Value.ownBlock] at hq
      · cases hq)
    rw [← hA]
    clear hw2 hA H1
    go_wp2_with fail
    obtain ⟨i0, hi, hz0, hz1, hz2⟩ := info_parts infoInt
    go_loopw [4, 5] (fun v i wr => SRel1 w A l v i wr) (fun _ i _ => l.length - (intOf i).toNat)
    case atStart => exact ⟨0, _, _, rfl, by omega, HC2.out⟩
    case round =>
      obtain ⟨k, va, mo, rfl, hk, hss⟩ := hrel
      have HSS := Lib.hid hss
      clear hss
      by_cases hlt : k < l.length
      · obtain ⟨b, off, hlo, hbB, hd, hc, hin⟩ := (Trm.RowIn.below HIN.out HSS.out.bel).place k hlt
        rw [Nat.zero_add] at hc
        have HI := Lib.hid hin
        have HCL := Lib.hid hc
        have HCP := Lib.hid (Copy_any l[k] wr hd (NotBad.of (any_deep HDP.out hlt)) (Tm.In.mono HSS.out.bel.size _ _ hin))
        have hplen := puts_len l k
        obtain ⟨k0, k1, k2, k3, k4⟩ := hc
        subst hlo
        have HB := Lib.hid hbB
        have HPT := Lib.hid (puts_take hlt)
        have HES := Lib.hid (entV_snoc (M := puts l) hlt)
        obtain ⟨E, hE⟩ : ∃ E, E = ent (puts l) l[k] := ⟨_, rfl⟩
        have HE1 := Lib.hid (show l[k].may = true → ((num (Tm.ins l[k] (puts (l.take k))) l[k] : Nat) : Int) = E from fun hm => by rw [num_puts hlt hm, hE]; unfold ent; rw [if_pos hm])
        have HE0 := Lib.hid (show l[k].may = false → -1 = E from fun hm => by rw [hE]; unfold ent; rw [if_neg (by rw [hm]; decide)])
        rw [← hE] at HES
        obtain ⟨t, ht⟩ : ∃ t, t = l[k] := ⟨_, rfl⟩
        have HPL : Hid (((puts (l.take k)).length : Int) + 65536 ≤ 200000) := Lib.hid (by have := HSZ.out; omega)
        rw [← ht] at k0 k1 k2 k3 k4 HI HCL HCP HPT HE1 HE0
        clear ht hin hbB hplen hE
        unfold Tm.val Tm.vals at HCP
        go_wp2_with fail
        refine HCP.out.mono ?_
        rintro e w3 ⟨h3, rfl, f3, b3⟩
        have HB3 := Lib.hid b3
        have HS3 := Lib.hid (HSS.out.below b3)
        have HPUT := Lib.hid (Put_any HS3.out.ar t h3 (f3.less fun q _ hq => HSS.out.ar.lt q hq) HPL.out)
        clear f3 b3 k0 k1 k2 k3 k4 HCP
        dsimp only [Tm.val, Tm.vals] at HPUT ⊢
        go_wp2_with fail
        refine HPUT.out.mono ?_
        rintro e w4 ⟨hy, hn⟩
        clear HPUT
        cases hm : t.may
        · obtain ⟨rfl, m4⟩ := hn hm
          have hst : stepL (puts (l.take k)) t = puts (l.take k) := by unfold stepL; rw [if_neg (by rw [hm]; decide)]
          rw [← hst, ← HPT.out] at m4
          obtain ⟨va4, mo4, hs4, hbw4⟩ := HS3.out.put m4
          have HBW := Lib.hid (show Below w.heap.size wr w4 from (HB3.out.mono HSS.out.bel.size).trans hbw4)
          have HS4 := Lib.hid hs4
          have HMY := Lib.hid (RefTMay_any t hd w4 (Tm.In.mono hs4.bel.size _ _ (Tm.In.below HBW.out _ _ HI.out)))
          rw [hm] at HMY
          obtain ⟨k0, k1, k2, k3, k4⟩ := HCL.out.below HBW.out HB.out
          have HEE := Lib.hid (HE0.out hm)
          unfold Tm.val Tm.vals at HMY
          clear hy hn m4 hst hs4 hbw4 hm HE1 HE0
          go_wp2_with fail
          refine HMY.out.mono ?_
          rintro e w5 ⟨rfl, b5⟩
          have HS5 := Lib.hid (HS4.out.below b5)
          obtain ⟨vn, hvn⟩ : ∃ vn, vn = u4 := ⟨_, rfl⟩
          have hq1 : Hid (k + 1 ≤ maxLen) := Lib.hid (by unfold maxLen; omega)
          have hq2 : Hid ((k + 1) * 8 ≤ 140737488355328) := Lib.hid (by omega)
          clear b5 k0 k1 k2 k3 k4 HMY hvn
          go_wp2_with (at_builtin; refine wpList_append_lies _ rfl _ _ _ rfl w.heap.size 3 i0 _ 1 8 Try.underlying23 hi hz0 hz1 hz2 rfl (by decide) _ k _ rfl (HS5.out.row.alloc _) ⟨w5.heap.size, 0, none⟩ 1 1 [.int .i64 (-1)] rfl rfl (World.news_of_block (cs := #[.int .i64 (-1)]) (t := 3) (fr := (0, 0)) (World.alloc_heap_new w5 _)) (by simp [Value.oneCell']) Nat.one_pos hq1.out hq2.out (by rw [World.size_alloc]; have := HS5.out.bel.size; omega) (w5.heap.size + 1) (World.size_alloc _ _) ?_; intro g1 cap1 w6 hown6 hg6 hat6 hlt6)
          have HS6 := Lib.hid (SS.grow HS5.out hown6 hg6 hat6)
          rw [HEE.out, ← HES.out] at HS6
          have HR6 := Lib.hid (show SRel1 w A l (.slice (some ⟨g1, 0, none⟩) (k + 1) cap1) (.int .i64 ((k + 1 : Nat) : Int)) w6 from ⟨k + 1, _, _, rfl, hlt, HS6.out⟩)
          have hwk : IntKind.i64.wrap ((k : Int) + 1) = ((k + 1 : Nat) : Int) := by rw [IntWalk.i64_in _ (by omega)]; omega
          clear hown6 hg6 hat6 hlt6
          go_wp2_with fail
          go_roundw
          case rel => exact HR6.out
          case measure => simp [intOf]; omega
        · obtain ⟨rfl, m4⟩ := hy hm
          have hst : stepL (puts (l.take k)) t = Tm.ins t (puts (l.take k)) := by unfold stepL; rw [if_pos hm]
          rw [← hst, ← HPT.out] at m4
          obtain ⟨va4, mo4, hs4, hbw4⟩ := HS3.out.put m4
          have HBW := Lib.hid (show Below w.heap.size wr w4 from (HB3.out.mono HSS.out.bel.size).trans hbw4)
          have HS4 := Lib.hid hs4
          have HMY := Lib.hid (RefTMay_any t hd w4 (Tm.In.mono hs4.bel.size _ _ (Tm.In.below HBW.out _ _ HI.out)))
          rw [hm] at HMY
          obtain ⟨k0, k1, k2, k3, k4⟩ := HCL.out.below HBW.out HB.out
          have HEE := Lib.hid (HE1.out hm)
          unfold Tm.val Tm.vals at HMY
          clear hy hn m4 hst hs4 hbw4 hm HE1 HE0
          go_wp2_with fail
          refine HMY.out.mono ?_
          rintro e w5 ⟨rfl, b5⟩
          have HS5 := Lib.hid (HS4.out.below b5)
          obtain ⟨vn, hvn⟩ : ∃ vn, vn = u4 := ⟨_, rfl⟩
          have hq1 : Hid (k + 1 ≤ maxLen) := Lib.hid (by unfold maxLen; omega)
          have hq2 : Hid ((k + 1) * 8 ≤ 140737488355328) := Lib.hid (by omega)
          clear b5 k0 k1 k2 k3 k4 HMY hvn
          go_wp2_with (at_builtin; refine wpList_append_lies _ rfl _ _ _ rfl w.heap.size 3 i0 _ 1 8 Try.underlying23 hi hz0 hz1 hz2 rfl (by decide) _ k _ rfl (HS5.out.row.alloc _) ⟨w5.heap.size, 0, none⟩ 1 1 [.int .i64 (num (Tm.ins t (puts (l.take k))) t : Nat)] rfl rfl (World.news_of_block (cs := #[.int .i64 (num (Tm.ins t (puts (l.take k))) t : Nat)]) (t := 3) (fr := (0, 0)) (World.alloc_heap_new w5 _)) (by simp [Value.oneCell']) Nat.one_pos hq1.out hq2.out (by rw [World.size_alloc]; have := HS5.out.bel.size; omega) (w5.heap.size + 1) (World.size_alloc _ _) ?_; intro g1 cap1 w6 hown6 hg6 hat6 hlt6)
          have HS6 := Lib.hid (SS.grow HS5.out hown6 hg6 hat6)
          rw [HEE.out, ← HES.out] at HS6
          have HR6 := Lib.hid (show SRel1 w A l (.slice (some ⟨g1, 0, none⟩) (k + 1) cap1) (.int .i64 ((k + 1 : Nat) : Int)) w6 from ⟨k + 1, _, _, rfl, hlt, HS6.out⟩)
          have hwk : IntKind.i64.wrap ((k : Int) + 1) = ((k + 1 : Nat) : Int) := by rw [IntWalk.i64_in _ (by omega)]; omega
          clear hown6 hg6 hat6 hlt6
          go_wp2_with fail
          go_roundw
          case rel => exact HR6.out
          case measure => simp [intOf]; omega
      · have hkl : k = l.length := by omega
        subst hkl
        rw [List.take_length] at HSS
        have hplen := puts_len l l.length
        rw [List.take_length] at hplen
        have hni : ((puts l).length : Int) ≤ 4000 := by have := HSZ.out; omega
        obtain ⟨M, hM⟩ : ∃ M, M = puts l := ⟨_, rfl⟩
        have HMP := Lib.hid (show ∀ (j : Nat) (h : j < l.length), l[j].may = true → l[j] ∈ M from fun j h hm => hM ▸ puts_mem h hm)
        rw [← hM] at HSS hni
        obtain ⟨ao4, cp4, hu4⟩ := HSS.out.slice
        subst hu4
        clear hM hplen HDP hi hz0 hz1 hz2 i0 hlt hk
        go_wp2_with fail
        go_loopw [8] (fun i wr => SRel2 w A l M (.slice ao4 l.length cp4) i wr) (fun i _ => l.length - (intOf i).toNat)
        case atStart => exact ⟨0, _, _, rfl, by omega, HSS.out⟩
        case round =>
          obtain ⟨j, va2, mo2, rfl, hj, hs2⟩ := hrel
          have HS := Lib.hid hs2
          clear hs2 HSS HC2
          by_cases hjl : j < l.length
          · obtain ⟨g, cap, hsl, hbg, hgl⟩ := World.ownsRow.form HS.out.row (by omega)
            injection hsl with hs1 hs2 hs3
            subst hs1
            have HCE := Lib.hid (fun (W : World) (va' : Value) (mo' : Option Nat) (h : SS w W A M (.slice (some ⟨g, 0, none⟩) l.length cp4) l.length (entV M l) va' mo') (q : Nat) (hq : q < l.length) => (h.cell (j := q) (u := .int .i64 (ent M l[q])) (by unfold entV; rw [List.getElem?_map, List.getElem?_eq_getElem hq]; rfl)).1)
            have hcn := HCE.out wr _ _ HS.out j hjl
            obtain ⟨b, off, hlo, hbB, hd, hc, hi⟩ := (Trm.RowIn.below HIN.out HS.out.bel).place j hjl
            rw [Nat.zero_add] at hc
            have HMJ := Lib.hid (HMP.out j hjl)
            have HEJ := Lib.hid (show ∀ (q : Nat) (hq : q < l.length), ent M l[q] = if l[q].may = true then ((num M l[q] : Nat) : Int) else -1 from fun q hq => rfl)
            have hej := HEJ.out j hjl
            obtain ⟨t, ht⟩ : ∃ t, t = l[j] := ⟨_, rfl⟩
            have HT := Lib.hid ht
            rw [← ht] at hcn hc hi HMJ hej
            have HB := Lib.hid hbB
            have HI := Lib.hid hi
            have HCL := Lib.hid hc
            clear hbB hi hc ht hs2 hs3
            subst hlo
            cases hm : t.may
            · rw [if_neg (by rw [hm]; decide)] at hej
              rw [hej] at hcn
              have hwj : IntKind.i64.wrap ((j : Int) + 1) = (j : Int) + 1 := IntWalk.i64_in _ (by omega)
              clear hej hm
              go_wp2_with fail
              go_roundw
              case rel => exact ⟨j + 1, va2, mo2, by go_num, by omega, HS.out⟩
              case measure => simp [intOf]; omega
            · rw [if_pos hm] at hej
              rw [hej] at hcn
              have hmem := HMJ.out hm
              have hql := num_lt hmem
              obtain ⟨q, hq⟩ : ∃ q, q = num M t := ⟨_, rfl⟩
              have HQ := Lib.hid hq
              have HMEM := Lib.hid hmem
              have HGET := Lib.hid (AGet_some HS.out.ar hmem)
              rw [← hq] at hcn hql HGET hej
              have HEN := Lib.hid hej
              have hq0 : decide ((q : Int) < 0) = false := decide_eq_false (by omega)
              clear hej hm hmem hq HMJ
              go_wp2_with fail
              refine HGET.out.mono ?_
              rintro e w3 ⟨h3, rfl, f3, b3⟩
              have HF3 := Lib.hid f3
              have HB3 := Lib.hid b3
              obtain ⟨W4, hW4⟩ : ∃ W4, W4 = w3.alloc (t.box h3) := ⟨_, rfl⟩
              have B34 := Lib.hid (show Below w3.heap.size w3 W4 from hW4 ▸ below_one _ _)
              have B4 := Lib.hid (Trm.go b3 B34.out)
              have HX4 := Lib.hid (show W4.heap[w3.heap.size]? = some (t.box h3) from hW4 ▸ World.alloc_heap_new w3 _)
              have hz4 : W4.heap.size = w3.heap.size + 1 := by rw [hW4]; simp
              have HZ4 := Lib.hid hz4
              have HS4 := Lib.hid (HS.out.below B4.out)
              have HI4 := Lib.hid (Tm.In.below (B4.out.mono HS.out.bel.size) _ _ HI.out)
              have HFD := Lib.hid (Find_any HS4.out.ar t hd (FirmS.of HI4.out (fun q hq => HS4.out.high q hq) HS4.out.bel.size) (by omega))
              rw [if_pos HMEM.out, decide_eq_true HMEM.out, ← HQ.out] at HFD
              have hcl4 := HCL.out.below (B4.out.mono HS.out.bel.size) HB.out
              obtain ⟨k0, k1, k2, k3, k4⟩ := hcl4
              unfold Tm.box Tm.vals at hW4
              unfold Tm.val Tm.vals at HFD ⊢
              clear f3 b3 HGET hz4
              go_upto_region 21 with fail
              rw [← hW4]
              clear hW4 hcn
              go_wp2_with fail
              refine HFD.out.mono ?_
              rintro e w5 ⟨rfl, m5⟩
              obtain ⟨va5, mo5, hs5, hbw5⟩ := HS4.out.put m5
              have HS5 := Lib.hid hs5
              have hr5 : RanS (own A va2 mo2) W4 w5 := by obtain ⟨_, _, _, _, hr⟩ := m5; exact hr
              have HX5 := Lib.hid (show w5.heap[w3.heap.size]? = some (t.box h3) from (hr5.block _ (by have := HZ4.out; omega) (fun h => by have := HS.out.ar.lt _ h; have := HB3.out.size; omega)).trans HX4.out)
              have HA5 := Lib.hid (FirmS.here (FirmS.turn (P' := fun _ => False) HF3.out ((RanS.of_below B34.out).trans (hr5.wide (fun q hq => HS.out.ar.lt q hq))) (fun q hq => hq.elim)))
              have B5 := Lib.hid ((B4.out.mono HS.out.bel.size).trans hbw5)
              have HC5 := Lib.hid (fun (W : World) (hW : Below w5.heap.size w5 W) => (show TCells W b (off + j * 5) t hd ∧ W.cell? ⟨g, j, none⟩ = some (.int .i64 q) ∧ TCells W w3.heap.size 0 t h3 from by
                have b1 : Below w.heap.size wr W := B5.out.trans (hW.mono HS5.out.bel.size)
                have c1 := HCE.out W _ _ (HS5.out.below hW) j hjl
                rw [← HT.out, HEN.out] at c1
                exact ⟨HCL.out.below b1 HB.out, c1, Tm.cells (Lvl.keep hW HX5.out)⟩))
              have HSM := Lib.hid (fun (W : World) (hW : Below w5.heap.size w5 W) => (show Calls Try.prog 14 #[.agg #[.int .u8 t.k, .int .i64 t.n, .string t.s, .slice h3.lo t.ls.length h3.lc, .slice h3.to t.ts.length h3.tc], .agg #[.int .u8 t.k, .int .i64 t.n, .string t.s, .slice hd.lo t.ls.length hd.lc, .slice hd.to t.ts.length hd.tc]] W fun e w' => e = .returned (.bool true) ∧ Below W.heap.size W w' from
                (show same t t = true from same_iff.2 rfl) ▸ RefSame_any t t h3 hd W (carry HA5.out hW) (Tm.In.mono (by have := hW.size; have := HS5.out.bel.size; omega) _ _ (Tm.In.below (B5.out.trans (hW.mono HS5.out.bel.size)) _ _ HI.out))))
              have HLN := Lib.hid (fun (W : World) (hW : Below w5.heap.size w5 W) => Len_any (HS5.out.ar.below hW (Nat.le_refl _)))
              have hqI : (q : Int) < (M.length : Int) := by omega
              obtain ⟨⟨k0, k1, k2, k3, k4⟩, cn, ⟨x0, x1, x2, x3, x4⟩⟩ := HC5.out w5 (Below.refl _ _)
              clear m5 hs5 hbw5 hr5 HX4 HF3 HB3 B34 B4 HZ4 HS4 HI4 HFD
              clear k0 k1 k2 k3 k4
              obtain ⟨⟨k0, k1, k2, k3, k4⟩, _, _⟩ := HC5.out w5 (Below.refl _ _)
              go_upto_region 22 with fail
              go_region_held3 (fun w' => w'.cell? ⟨w3.heap.size, 0, none⟩ = some (.int .u8 t.k) ∧ w'.cell? ⟨w3.heap.size, 1, none⟩ = some (.int .i64 t.n) ∧ w'.cell? ⟨w3.heap.size, 2, none⟩ = some (.string t.s) ∧ w'.cell? ⟨w3.heap.size, 3, none⟩ = some (.slice h3.lo t.ls.length h3.lc) ∧ w'.cell? ⟨w3.heap.size, 4, none⟩ = some (.slice h3.to t.ts.length h3.tc) ∧ w'.cell? ⟨b, off + j * 5, none⟩ = some (.int .u8 t.k) ∧ w'.cell? ⟨b, off + j * 5 + 1, none⟩ = some (.int .i64 t.n) ∧ w'.cell? ⟨b, off + j * 5 + 2, none⟩ = some (.string t.s) ∧ w'.cell? ⟨b, off + j * 5 + 3, none⟩ = some (.slice hd.lo t.ls.length hd.lc) ∧ w'.cell? ⟨b, off + j * 5 + 4, none⟩ = some (.slice hd.to t.ts.length hd.tc) ∧ w'.cell? ⟨g, j, none⟩ = some (.int .i64 q))
                (go_keep)
                (first
                  | (go_at_call 14; (with_reducible refine (HSM.out _ ?_).mono ?_); (first | assumption | exact (Below.refl _ _).drew); rintro e w7 ⟨rfl, bw⟩; have hb7 : Below w5.heap.size w5 w7 := Trm.go (by first | assumption | exact (Below.refl _ _).drew) bw; obtain ⟨⟨k0, k1, k2, k3, k4⟩, cn, ⟨x0, x1, x2, x3, x4⟩⟩ := HC5.out w7 hb7)
                  | (go_at_call 13; (with_reducible refine (HLN.out _ ?_).mono ?_); (first | assumption | exact (Below.refl _ _).drew); rintro e w7 ⟨rfl, bw⟩; have hb8 : Below w5.heap.size w5 w7 := Trm.go (by first | assumption | exact (Below.refl _ _).drew) bw; obtain ⟨⟨k0, k1, k2, k3, k4⟩, cn, ⟨x0, x1, x2, x3, x4⟩⟩ := HC5.out w7 hb8))
              all_goals
                have hbf : Below w5.heap.size w5 w7 := by assumption
                have HB7 := Lib.hid hbf
                have HI5 := Lib.hid (Tm.In.below B5.out _ _ HI.out)
                clear x0 x1 x2 x3 x4 k0 k1 k2 k3 k4 cn HSM HLN hbf
                have HWJ := Lib.hid (show IntKind.i64.wrap ((j : Int) + 1) = (j : Int) + 1 from IntWalk.i64_in _ (by omega))
                go_wp2_with fail
                go_loopw [13] (fun i wr2 => ∃ j2 : Nat, i = .int .i64 j2 ∧ j2 ≤ j ∧ Below w5.heap.size w5 wr2) (fun i _ => j - (intOf i).toNat)
                case atStart => exact ⟨0, rfl, by omega, HB7.out⟩
                case round =>
                  obtain ⟨w8, hw8⟩ : ∃ x : World, x = wr := ⟨_, rfl⟩
                  subst hw8
                  obtain ⟨j2, rfl, hj2, hb8⟩ := hrel
                  have HB8 := Lib.hid hb8
                  clear hb8
                  by_cases hj2l : j2 < j
                  · have HS8 := Lib.hid (HS5.out.below HB8.out)
                    have hj2n : j2 < l.length := by omega
                    have hcn2 := HCE.out w8 _ _ HS8.out j2 hj2n
                    have hej2 := HEJ.out j2 hj2n
                    obtain ⟨b', off', hlo', hbB', hd2, hc2, hi2⟩ := (Trm.RowIn.below HIN.out HS8.out.bel).place j2 hj2n
                    rw [Nat.zero_add] at hc2
                    injection hlo' with hlo'
                    injection hlo' with e1 e2
                    subst e1
                    subst e2
                    have HM2 := Lib.hid (HMP.out j2 hj2n)
                    obtain ⟨t2, ht2⟩ : ∃ t2, t2 = l[j2] := ⟨_, rfl⟩
                    rw [← ht2] at hcn2 hej2 hc2 hi2 HM2
                    have HC2 := Lib.hid hc2
                    have HI2 := Lib.hid hi2
                    have hwj2 : IntKind.i64.wrap ((j2 : Int) + 1) = (j2 : Int) + 1 := IntWalk.i64_in _ (by omega)
                    clear hc2 hi2 ht2 hbB'
                    cases hm2 : t2.may
                    · rw [if_neg (by rw [hm2]; decide)] at hej2
                      rw [hej2] at hcn2
                      clear hej2 hm2 HM2
                      go_upto_region 27 with fail
                      refine wp_region_held_drew (S := fun w' => w'.cell? ⟨g, j2, none⟩ = some (.int .i64 (-1))) (by kernel_rfl) (hcn2) (fun hHeld => ?_)
                      refine wpAnyH_take (i := 0) (v := ?va0) rfl (by kernel_rfl) (by kernel_rfl) (by kernel_rfl) (fun _ _ _ h => h) (Or.inl ⟨by rfl, ?hya0⟩) (by assumption) ?resta0
                      case hya0 => (intro w' hSw; (try dsimp only at hSw); go_simp <;> with_reducible rfl)
                      try simp only [List.getElem_toArray, List.getElem_cons_zero, Act.put, List.setIfInBounds_toArray, List.set_cons_zero, List.set_cons_succ]
                      refine wpAnyH_take (i := 1) (v := ?va1) rfl (by kernel_rfl) (by kernel_rfl) (by kernel_rfl) (fun _ _ _ h => h) (Or.inl ⟨by rfl, ?hya1⟩) (by assumption) ?resta1
                      case hya1 => (intro w' hSw; (try dsimp only at hSw); go_simp <;> with_reducible rfl)
                      try simp only [List.getElem_toArray, List.getElem_cons_succ, List.getElem_cons_zero, Act.put, List.setIfInBounds_toArray, List.set_cons_zero, List.set_cons_succ]
                      refine wpAnyH_take (i := 2) (v := ?va2) rfl (by kernel_rfl) (by kernel_rfl) (by kernel_rfl) (fun _ _ _ h => h) (Or.inl ⟨by rfl, ?hya2⟩) (by assumption) ?resta2
                      case hya2 => (intro w' hSw; (try dsimp only at hSw); go_simp <;> with_reducible rfl)
                      try simp only [List.getElem_toArray, List.getElem_cons_succ, List.getElem_cons_zero, Act.put, List.setIfInBounds_toArray, List.set_cons_zero, List.set_cons_succ]
                      refine wpAnyH_take (i := 3) (v := ?va3) rfl (by kernel_rfl) (by kernel_rfl) (by kernel_rfl) (fun _ _ _ h => h) (Or.inl ⟨by rfl, ?hya3⟩) (by assumption) ?resta3
                      case hya3 => (intro w' hSw; (try dsimp only at hSw); go_simp <;> with_reducible rfl)
                      try simp only [List.getElem_toArray, List.getElem_cons_succ, List.getElem_cons_zero, Act.put, List.setIfInBounds_toArray, List.set_cons_zero, List.set_cons_succ]
                      refine wpAnyH_take (i := 4) (v := ?va4) rfl (by kernel_rfl) (by kernel_rfl) (by kernel_rfl) (fun _ _ _ h => h) (Or.inl ⟨by rfl, ?hya4⟩) (by assumption) ?resta4
                      case hya4 => (intro w' hSw; (try dsimp only at hSw); go_simp <;> with_reducible rfl)
                      try simp only [List.getElem_toArray, List.getElem_cons_succ, List.getElem_cons_zero, Act.put, List.setIfInBounds_toArray, List.set_cons_zero, List.set_cons_succ]
                      refine wpAnyH_take (i := 5) (v := ?va5) rfl (by kernel_rfl) (by kernel_rfl) (by kernel_rfl) (fun _ _ _ h => h) (Or.inl ⟨by rfl, ?hya5⟩) (by assumption) ?resta5
                      case hya5 => (intro w' hSw; (try dsimp only at hSw); go_simp <;> with_reducible rfl)
                      try simp only [List.getElem_toArray, List.getElem_cons_succ, List.getElem_cons_zero, Act.put, List.setIfInBounds_toArray, List.set_cons_zero, List.set_cons_succ]
                      refine wpAnyH_take (i := 6) (v := undef) rfl (by kernel_rfl) (by kernel_rfl) (by kernel_rfl) (fun _ _ _ h => h) (Or.inr ⟨by rfl, rfl⟩) (by assumption) ?_
                      try simp only [List.getElem_toArray, List.getElem_cons_succ, List.getElem_cons_zero, Act.put, List.setIfInBounds_toArray, List.set_cons_zero, List.set_cons_succ]
                      refine wpAnyH_take (i := 7) (v := undef) rfl (by kernel_rfl) (by kernel_rfl) (by kernel_rfl) (fun _ _ _ h => h) (Or.inr ⟨by rfl, rfl⟩) (by assumption) ?_
                      try simp only [List.getElem_toArray, List.getElem_cons_succ, List.getElem_cons_zero, Act.put, List.setIfInBounds_toArray, List.set_cons_zero, List.set_cons_succ]
                      refine wpAnyH_take (i := 8) (v := undef) rfl (by kernel_rfl) (by kernel_rfl) (by kernel_rfl) (fun _ _ _ h => h) (Or.inr ⟨by rfl, rfl⟩) (by assumption) ?_
                      try simp only [List.getElem_toArray, List.getElem_cons_succ, List.getElem_cons_zero, Act.put, List.setIfInBounds_toArray, List.set_cons_zero, List.set_cons_succ]
                      refine wpAnyH_take (i := 9) (v := undef) rfl (by kernel_rfl) (by kernel_rfl) (by kernel_rfl) (fun _ _ _ h => h) (Or.inr ⟨by rfl, rfl⟩) (by assumption) ?_
                      try simp only [List.getElem_toArray, List.getElem_cons_succ, List.getElem_cons_zero, Act.put, List.setIfInBounds_toArray, List.set_cons_zero, List.set_cons_succ]
                      refine wpAnyH_take (i := 10) (v := undef) rfl (by kernel_rfl) (by kernel_rfl) (by kernel_rfl) (fun _ _ _ h => h) (Or.inr ⟨by rfl, rfl⟩) (by assumption) ?_
                      try simp only [List.getElem_toArray, List.getElem_cons_succ, List.getElem_cons_zero, Act.put, List.setIfInBounds_toArray, List.set_cons_zero, List.set_cons_succ]
                      refine wpAnyH_take (i := 11) (v := undef) rfl (by kernel_rfl) (by kernel_rfl) (by kernel_rfl) (fun _ _ _ h => h) (Or.inr ⟨by rfl, rfl⟩) (by assumption) ?_
                      try simp only [List.getElem_toArray, List.getElem_cons_succ, List.getElem_cons_zero, Act.put, List.setIfInBounds_toArray, List.set_cons_zero, List.set_cons_succ]
                      refine wpAnyH_take (i := 12) (v := undef) rfl (by kernel_rfl) (by kernel_rfl) (by kernel_rfl) (fun _ _ _ h => h) (Or.inr ⟨by rfl, rfl⟩) (by assumption) ?_
                      try simp only [List.getElem_toArray, List.getElem_cons_succ, List.getElem_cons_zero, Act.put, List.setIfInBounds_toArray, List.set_cons_zero, List.set_cons_succ]
                      refine wpAnyH_take (i := 13) (v := undef) rfl (by kernel_rfl) (by kernel_rfl) (by kernel_rfl) (fun _ _ _ h => h) (Or.inr ⟨by rfl, rfl⟩) (by assumption) ?_
                      try simp only [List.getElem_toArray, List.getElem_cons_succ, List.getElem_cons_zero, Act.put, List.setIfInBounds_toArray, List.set_cons_zero, List.set_cons_succ]
                      refine wpAnyH_take (i := 14) (v := undef) rfl (by kernel_rfl) (by kernel_rfl) (by kernel_rfl) (fun _ _ _ h => h) (Or.inr ⟨by rfl, rfl⟩) (by assumption) ?_
                      try simp only [List.getElem_toArray, List.getElem_cons_succ, List.getElem_cons_zero, Act.put, List.setIfInBounds_toArray, List.set_cons_zero, List.set_cons_succ]
                      refine wpAnyH_take (i := 15) (v := undef) rfl (by kernel_rfl) (by kernel_rfl) (by kernel_rfl) (fun _ _ _ h => h) (Or.inr ⟨by rfl, rfl⟩) (by assumption) ?_
                      try simp only [List.getElem_toArray, List.getElem_cons_succ, List.getElem_cons_zero, Act.put, List.setIfInBounds_toArray, List.set_cons_zero, List.set_cons_succ]
                      refine wpAnyH_take (i := 16) (v := undef) rfl (by kernel_rfl) (by kernel_rfl) (by kernel_rfl) (fun _ _ _ h => h) (Or.inr ⟨by rfl, rfl⟩) (by assumption) ?_
                      try simp only [List.getElem_toArray, List.getElem_cons_succ, List.getElem_cons_zero, Act.put, List.setIfInBounds_toArray, List.set_cons_zero, List.set_cons_succ]
                      refine wpAnyH_take (i := 17) (v := undef) rfl (by kernel_rfl) (by kernel_rfl) (by kernel_rfl) (fun _ _ _ h => h) (Or.inr ⟨by rfl, rfl⟩) (by assumption) ?_
                      try simp only [List.getElem_toArray, List.getElem_cons_succ, List.getElem_cons_zero, Act.put, List.setIfInBounds_toArray, List.set_cons_zero, List.set_cons_succ]
                      refine wpAnyH_take (i := 18) (v := undef) rfl (by kernel_rfl) (by kernel_rfl) (by kernel_rfl) (fun _ _ _ h => h) (Or.inr ⟨by rfl, rfl⟩) (by assumption) ?_
                      try simp only [List.getElem_toArray, List.getElem_cons_succ, List.getElem_cons_zero, Act.put, List.setIfInBounds_toArray, List.set_cons_zero, List.set_cons_succ]
                      refine wpAnyH_take (i := 19) (v := undef) rfl (by kernel_rfl) (by kernel_rfl) (by kernel_rfl) (fun _ _ _ h => h) (Or.inr ⟨by rfl, rfl⟩) (by assumption) ?_
                      try simp only [List.getElem_toArray, List.getElem_cons_succ, List.getElem_cons_zero, Act.put, List.setIfInBounds_toArray, List.set_cons_zero, List.set_cons_succ]
                      refine wpAnyH_take (i := 20) (v := undef) rfl (by kernel_rfl) (by kernel_rfl) (by kernel_rfl) (fun _ _ _ h => h) (Or.inr ⟨by rfl, rfl⟩) (by assumption) ?_
                      try simp only [List.getElem_toArray, List.getElem_cons_succ, List.getElem_cons_zero, Act.put, List.setIfInBounds_toArray, List.set_cons_zero, List.set_cons_succ]
                      refine wpAnyH_take (i := 21) (v := undef) rfl (by kernel_rfl) (by kernel_rfl) (by kernel_rfl) (fun _ _ _ h => h) (Or.inr ⟨by rfl, rfl⟩) (by assumption) ?_
                      try simp only [List.getElem_toArray, List.getElem_cons_succ, List.getElem_cons_zero, Act.put, List.setIfInBounds_toArray, List.set_cons_zero, List.set_cons_succ]
                      refine wpAnyH_take (i := 22) (v := undef) rfl (by kernel_rfl) (by kernel_rfl) (by kernel_rfl) (fun _ _ _ h => h) (Or.inr ⟨by rfl, rfl⟩) (by assumption) ?_
                      try simp only [List.getElem_toArray, List.getElem_cons_succ, List.getElem_cons_zero, Act.put, List.setIfInBounds_toArray, List.set_cons_zero, List.set_cons_succ]
                      refine wpAnyH_take (i := 23) (v := undef) rfl (by kernel_rfl) (by kernel_rfl) (by kernel_rfl) (fun _ _ _ h => h) (Or.inr ⟨by rfl, rfl⟩) (by assumption) ?_
                      try simp only [List.getElem_toArray, List.getElem_cons_succ, List.getElem_cons_zero, Act.put, List.setIfInBounds_toArray, List.set_cons_zero, List.set_cons_succ]
                      refine wpAnyH_take (i := 24) (v := undef) rfl (by kernel_rfl) (by kernel_rfl) (by kernel_rfl) (fun _ _ _ h => h) (Or.inr ⟨by rfl, rfl⟩) (by assumption) ?_
                      try simp only [List.getElem_toArray, List.getElem_cons_succ, List.getElem_cons_zero, Act.put, List.setIfInBounds_toArray, List.set_cons_zero, List.set_cons_succ]
                      refine wpAnyH_take (i := 25) (v := ?va25) rfl (by kernel_rfl) (by kernel_rfl) (by kernel_rfl) (fun _ _ _ h => h) (Or.inl ⟨by rfl, ?hya25⟩) (by assumption) ?resta25
                      case hya25 => (intro w' hSw; (try dsimp only at hSw); go_simp <;> with_reducible rfl)
                      try simp only [List.getElem_toArray, List.getElem_cons_succ, List.getElem_cons_zero, Act.put, List.setIfInBounds_toArray, List.set_cons_zero, List.set_cons_succ]
                      refine wpAnyH_done (by kernel_rfl) ?_ _
                      go_wp2_with fail
                      go_roundw
                      case rel => exact ⟨j2 + 1, by go_num, by omega, Trm.go HB8.out (Below.refl _ _).drew⟩
                      case measure => simp [intOf]; omega
                    · rw [if_pos hm2] at hej2
                      have hmem2 := HM2.out hm2
                      obtain ⟨q2, hq2⟩ : ∃ q2, q2 = num M t2 := ⟨_, rfl⟩
                      rw [← hq2] at hej2
                      rw [hej2] at hcn2
                      have HQQ := Lib.hid (show same t t2 = decide (q = q2) from by
                        by_cases he : t = t2
                        · rw [he, same_iff.2 rfl, hq2, HQ.out, he]; simp
                        · have h1 : ¬ q = q2 := fun h => he (num_inj HMEM.out hmem2 (by rw [← HQ.out, ← hq2, h]))
                          rw [decide_eq_false h1]
                          cases hs : same t t2
                          · rfl
                          · exact absurd (same_iff.1 hs) he)
                      have hsame := RefSame_any t t2 hd hd2
                      have HSM2 := Lib.hid (fun (W : World) (hW : Below w8.heap.size w8 W) => (show Calls Try.prog 14 #[.agg #[.int .u8 t.k, .int .i64 t.n, .string t.s, .slice hd.lo t.ls.length hd.lc, .slice hd.to t.ts.length hd.tc], .agg #[.int .u8 t2.k, .int .i64 t2.n, .string t2.s, .slice hd2.lo t2.ls.length hd2.lc, .slice hd2.to t2.ts.length hd2.tc]] W fun e w' => e = .returned (.bool (decide (q = q2))) ∧ Below W.heap.size W w' from
                        HQQ.out ▸ hsame W (Tm.In.mono (by have := hW.size; have := HS8.out.bel.size; omega) _ _ (Tm.In.below ((HB8.out.mono HS5.out.bel.size).trans (hW.mono HS8.out.bel.size)) _ _ HI5.out)) (Tm.In.mono (by have := hW.size; have := HS8.out.bel.size; omega) _ _ (Tm.In.below (hW.mono HS8.out.bel.size) _ _ HI2.out))))
                      have HEN2 := Lib.hid hej2
                      have HJ2 := Lib.hid hj2n
                      have HK2 := Lib.hid (fun (W : World) (hW : Below w8.heap.size w8 W) => (show W.cell? ⟨g, j, none⟩ = some (.int .i64 q) ∧ W.cell? ⟨g, j2, none⟩ = some (.int .i64 q2) ∧ W.cell? ⟨b, off + j * 5, none⟩ = some (.int .u8 t.k) ∧ W.cell? ⟨b, off + j * 5 + 1, none⟩ = some (.int .i64 t.n) ∧ W.cell? ⟨b, off + j * 5 + 2, none⟩ = some (.string t.s) ∧ W.cell? ⟨b, off + j * 5 + 3, none⟩ = some (.slice hd.lo t.ls.length hd.lc) ∧ W.cell? ⟨b, off + j * 5 + 4, none⟩ = some (.slice hd.to t.ts.length hd.tc) ∧ W.cell? ⟨b, off + j2 * 5, none⟩ = some (.int .u8 t2.k) ∧ W.cell? ⟨b, off + j2 * 5 + 1, none⟩ = some (.int .i64 t2.n) ∧ W.cell? ⟨b, off + j2 * 5 + 2, none⟩ = some (.string t2.s) ∧ W.cell? ⟨b, off + j2 * 5 + 3, none⟩ = some (.slice hd2.lo t2.ls.length hd2.lc) ∧ W.cell? ⟨b, off + j2 * 5 + 4, none⟩ = some (.slice hd2.to t2.ts.length hd2.tc) from by
                        obtain ⟨⟨k0, k1, k2, k3, k4⟩, cn, _⟩ := HC5.out W (Trm.go HB8.out hW)
                        obtain ⟨y0, y1, y2, y3, y4⟩ := HC2.out.below (hW.mono HS8.out.bel.size) HB.out
                        have c1 := (hW.cell (p := ⟨g, j2, none⟩) (HS8.out.row.lt g rfl).2).trans hcn2
                        exact ⟨cn, c1, k0, k1, k2, k3, k4, y0, y1, y2, y3, y4⟩))
                      by_cases hqq : q = q2
                      · have hdq : decide ((q : Int) = (q2 : Int)) = true := decide_eq_true (by omega)
                        have hde : ((q : Int) == (q2 : Int)) = true := by simp [hqq]
                        rw [decide_eq_true hqq] at HSM2
                        clear hsame hej2 hm2 hmem2 hq2 hcn2 HM2 HQQ
                        go_upto_region 27 with fail
                        refine wp_region_held_drew (S := fun w' => w'.cell? ⟨g, j, none⟩ = some (.int .i64 q) ∧ w'.cell? ⟨g, j2, none⟩ = some (.int .i64 q2) ∧ w'.cell? ⟨b, off + j * 5, none⟩ = some (.int .u8 t.k) ∧ w'.cell? ⟨b, off + j * 5 + 1, none⟩ = some (.int .i64 t.n) ∧ w'.cell? ⟨b, off + j * 5 + 2, none⟩ = some (.string t.s) ∧ w'.cell? ⟨b, off + j * 5 + 3, none⟩ = some (.slice hd.lo t.ls.length hd.lc) ∧ w'.cell? ⟨b, off + j * 5 + 4, none⟩ = some (.slice hd.to t.ts.length hd.tc) ∧ w'.cell? ⟨b, off + j2 * 5, none⟩ = some (.int .u8 t2.k) ∧ w'.cell? ⟨b, off + j2 * 5 + 1, none⟩ = some (.int .i64 t2.n) ∧ w'.cell? ⟨b, off + j2 * 5 + 2, none⟩ = some (.string t2.s) ∧ w'.cell? ⟨b, off + j2 * 5 + 3, none⟩ = some (.slice hd2.lo t2.ls.length hd2.lc) ∧ w'.cell? ⟨b, off + j2 * 5 + 4, none⟩ = some (.slice hd2.to t2.ts.length hd2.tc)) (by kernel_rfl) (HK2.out _ (Below.refl _ _).drew) (fun hHeld => ?_)
                        refine wpAnyH_take (i := 0) (v := ?vb0) rfl (by kernel_rfl) (by kernel_rfl) (by kernel_rfl) (fun _ _ _ h => h) (Or.inl ⟨by rfl, ?hyb0⟩) (by assumption) ?restb0
                        case hyb0 => (intro w' hSw; (try dsimp only at hSw); go_simp <;> with_reducible rfl)
                        try simp only [List.getElem_toArray, List.getElem_cons_zero, Act.put, List.setIfInBounds_toArray, List.set_cons_zero, List.set_cons_succ]
                        refine wpAnyH_take (i := 1) (v := ?vb1) rfl (by kernel_rfl) (by kernel_rfl) (by kernel_rfl) (fun _ _ _ h => h) (Or.inl ⟨by rfl, ?hyb1⟩) (by assumption) ?restb1
                        case hyb1 => (intro w' hSw; (try dsimp only at hSw); go_simp <;> with_reducible rfl)
                        try simp only [List.getElem_toArray, List.getElem_cons_succ, List.getElem_cons_zero, Act.put, List.setIfInBounds_toArray, List.set_cons_zero, List.set_cons_succ]
                        refine wpAnyH_take (i := 2) (v := ?vb2) rfl (by kernel_rfl) (by kernel_rfl) (by kernel_rfl) (fun _ _ _ h => h) (Or.inl ⟨by rfl, ?hyb2⟩) (by assumption) ?restb2
                        case hyb2 => (intro w' hSw; (try dsimp only at hSw); go_simp <;> with_reducible rfl)
                        try simp only [List.getElem_toArray, List.getElem_cons_succ, List.getElem_cons_zero, Act.put, List.setIfInBounds_toArray, List.set_cons_zero, List.set_cons_succ]
                        refine wpAnyH_take (i := 3) (v := ?vb3) rfl (by kernel_rfl) (by kernel_rfl) (by kernel_rfl) (fun _ _ _ h => h) (Or.inl ⟨by rfl, ?hyb3⟩) (by assumption) ?restb3
                        case hyb3 => (intro w' hSw; (try dsimp only at hSw); go_simp <;> with_reducible rfl)
                        try simp only [List.getElem_toArray, List.getElem_cons_succ, List.getElem_cons_zero, Act.put, List.setIfInBounds_toArray, List.set_cons_zero, List.set_cons_succ]
                        refine wpAnyH_take (i := 4) (v := ?vb4) rfl (by kernel_rfl) (by kernel_rfl) (by kernel_rfl) (fun _ _ _ h => h) (Or.inl ⟨by rfl, ?hyb4⟩) (by assumption) ?restb4
                        case hyb4 => (intro w' hSw; (try dsimp only at hSw); go_simp <;> with_reducible rfl)
                        try simp only [List.getElem_toArray, List.getElem_cons_succ, List.getElem_cons_zero, Act.put, List.setIfInBounds_toArray, List.set_cons_zero, List.set_cons_succ]
                        refine wpAnyH_take (i := 5) (v := ?vb5) rfl (by kernel_rfl) (by kernel_rfl) (by kernel_rfl) (fun _ _ _ h => h) (Or.inl ⟨by rfl, ?hyb5⟩) (by assumption) ?restb5
                        case hyb5 => (intro w' hSw; (try dsimp only at hSw); go_simp <;> with_reducible rfl)
                        try simp only [List.getElem_toArray, List.getElem_cons_succ, List.getElem_cons_zero, Act.put, List.setIfInBounds_toArray, List.set_cons_zero, List.set_cons_succ]
                        refine wpAnyH_take (i := 6) (v := ?vb6) rfl (by kernel_rfl) (by kernel_rfl) (by kernel_rfl) (fun _ _ _ h => h) (Or.inl ⟨by rfl, ?hyb6⟩) (by assumption) ?restb6
                        case hyb6 => (intro w' hSw; (try dsimp only at hSw); go_simp <;> with_reducible rfl)
                        try simp only [List.getElem_toArray, List.getElem_cons_succ, List.getElem_cons_zero, Act.put, List.setIfInBounds_toArray, List.set_cons_zero, List.set_cons_succ]
                        refine wpAnyH_take (i := 7) (v := ?vb7) rfl (by kernel_rfl) (by kernel_rfl) (by kernel_rfl) (fun _ _ _ h => h) (Or.inl ⟨by rfl, ?hyb7⟩) (by assumption) ?restb7
                        case hyb7 => (intro w' hSw; (try dsimp only at hSw); go_simp <;> with_reducible rfl)
                        try simp only [List.getElem_toArray, List.getElem_cons_succ, List.getElem_cons_zero, Act.put, List.setIfInBounds_toArray, List.set_cons_zero, List.set_cons_succ]
                        refine wpAnyH_take (i := 8) (v := ?vb8) rfl (by kernel_rfl) (by kernel_rfl) (by kernel_rfl) (fun _ _ _ h => h) (Or.inl ⟨by rfl, ?hyb8⟩) (by assumption) ?restb8
                        case hyb8 => (intro w' hSw; (try dsimp only at hSw); go_simp <;> with_reducible rfl)
                        try simp only [List.getElem_toArray, List.getElem_cons_succ, List.getElem_cons_zero, Act.put, List.setIfInBounds_toArray, List.set_cons_zero, List.set_cons_succ]
                        refine wpAnyH_take (i := 9) (v := ?vb9) rfl (by kernel_rfl) (by kernel_rfl) (by kernel_rfl) (fun _ _ _ h => h) (Or.inl ⟨by rfl, ?hyb9⟩) (by assumption) ?restb9
                        case hyb9 => (intro w' hSw; (try dsimp only at hSw); go_simp <;> with_reducible rfl)
                        try simp only [List.getElem_toArray, List.getElem_cons_succ, List.getElem_cons_zero, Act.put, List.setIfInBounds_toArray, List.set_cons_zero, List.set_cons_succ]
                        refine wpAnyH_take (i := 10) (v := ?vb10) rfl (by kernel_rfl) (by kernel_rfl) (by kernel_rfl) (fun _ _ _ h => h) (Or.inl ⟨by rfl, ?hyb10⟩) (by assumption) ?restb10
                        case hyb10 => (intro w' hSw; (try dsimp only at hSw); go_simp <;> with_reducible rfl)
                        try simp only [List.getElem_toArray, List.getElem_cons_succ, List.getElem_cons_zero, Act.put, List.setIfInBounds_toArray, List.set_cons_zero, List.set_cons_succ]
                        refine wpAnyH_take (i := 11) (v := ?vb11) rfl (by kernel_rfl) (by kernel_rfl) (by kernel_rfl) (fun _ _ _ h => h) (Or.inl ⟨by rfl, ?hyb11⟩) (by assumption) ?restb11
                        case hyb11 => (intro w' hSw; (try dsimp only at hSw); go_simp <;> with_reducible rfl)
                        try simp only [List.getElem_toArray, List.getElem_cons_succ, List.getElem_cons_zero, Act.put, List.setIfInBounds_toArray, List.set_cons_zero, List.set_cons_succ]
                        refine wpAnyH_take (i := 12) (v := ?vb12) rfl (by kernel_rfl) (by kernel_rfl) (by kernel_rfl) (fun _ _ _ h => h) (Or.inl ⟨by rfl, ?hyb12⟩) (by assumption) ?restb12
                        case hyb12 => (intro w' hSw; (try dsimp only at hSw); go_simp <;> with_reducible rfl)
                        try simp only [List.getElem_toArray, List.getElem_cons_succ, List.getElem_cons_zero, Act.put, List.setIfInBounds_toArray, List.set_cons_zero, List.set_cons_succ]
                        refine wpAnyH_take (i := 13) (v := ?vb13) rfl (by kernel_rfl) (by kernel_rfl) (by kernel_rfl) (fun _ _ _ h => h) (Or.inl ⟨by rfl, ?hyb13⟩) (by assumption) ?restb13
                        case hyb13 => (intro w' hSw; (try dsimp only at hSw); go_simp <;> with_reducible rfl)
                        try simp only [List.getElem_toArray, List.getElem_cons_succ, List.getElem_cons_zero, Act.put, List.setIfInBounds_toArray, List.set_cons_zero, List.set_cons_succ]
                        refine wpAnyH_take (i := 14) (v := ?vb14) rfl (by kernel_rfl) (by kernel_rfl) (by kernel_rfl) (fun _ _ _ h => h) (Or.inl ⟨by rfl, ?hyb14⟩) (by assumption) ?restb14
                        case hyb14 => (intro w' hSw; (try dsimp only at hSw); go_simp <;> with_reducible rfl)
                        try simp only [List.getElem_toArray, List.getElem_cons_succ, List.getElem_cons_zero, Act.put, List.setIfInBounds_toArray, List.set_cons_zero, List.set_cons_succ]
                        refine wpAnyH_take (i := 15) (v := ?vb15) rfl (by kernel_rfl) (by kernel_rfl) (by kernel_rfl) (fun _ _ _ h => h) (Or.inl ⟨by rfl, ?hyb15⟩) (by assumption) ?restb15
                        case hyb15 => (intro w' hSw; (try dsimp only at hSw); go_simp <;> with_reducible rfl)
                        try simp only [List.getElem_toArray, List.getElem_cons_succ, List.getElem_cons_zero, Act.put, List.setIfInBounds_toArray, List.set_cons_zero, List.set_cons_succ]
                        refine wpAnyH_take (i := 16) (v := ?vb16) rfl (by kernel_rfl) (by kernel_rfl) (by kernel_rfl) (fun _ _ _ h => h) (Or.inl ⟨by rfl, ?hyb16⟩) (by assumption) ?restb16
                        case hyb16 => (intro w' hSw; (try dsimp only at hSw); go_simp <;> with_reducible rfl)
                        try simp only [List.getElem_toArray, List.getElem_cons_succ, List.getElem_cons_zero, Act.put, List.setIfInBounds_toArray, List.set_cons_zero, List.set_cons_succ]
                        refine wpAnyH_take (i := 17) (v := ?vb17) rfl (by kernel_rfl) (by kernel_rfl) (by kernel_rfl) (fun _ _ _ h => h) (Or.inl ⟨by rfl, ?hyb17⟩) (by assumption) ?restb17
                        case hyb17 => (intro w' hSw; (try dsimp only at hSw); go_simp <;> with_reducible rfl)
                        try simp only [List.getElem_toArray, List.getElem_cons_succ, List.getElem_cons_zero, Act.put, List.setIfInBounds_toArray, List.set_cons_zero, List.set_cons_succ]
                        refine wpAnyH_take (i := 18) (v := ?vb18) rfl (by kernel_rfl) (by kernel_rfl) (by kernel_rfl) (fun _ _ _ h => h) (Or.inl ⟨by rfl, ?hyb18⟩) (by assumption) ?restb18
                        case hyb18 => (intro w' hSw; (try dsimp only at hSw); go_simp <;> with_reducible rfl)
                        try simp only [List.getElem_toArray, List.getElem_cons_succ, List.getElem_cons_zero, Act.put, List.setIfInBounds_toArray, List.set_cons_zero, List.set_cons_succ]
                        refine wpAnyH_take (i := 19) (v := ?vb19) rfl (by kernel_rfl) (by kernel_rfl) (by kernel_rfl) (fun _ _ _ h => h) (Or.inl ⟨by rfl, ?hyb19⟩) (by assumption) ?restb19
                        case hyb19 => (intro w' hSw; (try dsimp only at hSw); go_simp <;> with_reducible rfl)
                        try simp only [List.getElem_toArray, List.getElem_cons_succ, List.getElem_cons_zero, Act.put, List.setIfInBounds_toArray, List.set_cons_zero, List.set_cons_succ]
                        refine wpAnyH_take (i := 20) (v := ?vb20) rfl (by kernel_rfl) (by kernel_rfl) (by kernel_rfl) (fun _ _ _ h => h) (Or.inl ⟨by rfl, ?hyb20⟩) (by assumption) ?restb20
                        case hyb20 => (intro w' hSw; (try dsimp only at hSw); go_simp <;> with_reducible rfl)
                        try simp only [List.getElem_toArray, List.getElem_cons_succ, List.getElem_cons_zero, Act.put, List.setIfInBounds_toArray, List.set_cons_zero, List.set_cons_succ]
                        refine wpAnyH_take (i := 21) (v := ?vb21) rfl (by kernel_rfl) (by kernel_rfl) (by kernel_rfl) (fun _ _ _ h => h) (Or.inl ⟨by rfl, ?hyb21⟩) (by assumption) ?restb21
                        case hyb21 => (intro w' hSw; (try dsimp only at hSw); go_simp <;> with_reducible rfl)
                        try simp only [List.getElem_toArray, List.getElem_cons_succ, List.getElem_cons_zero, Act.put, List.setIfInBounds_toArray, List.set_cons_zero, List.set_cons_succ]
                        refine wpAnyH_take (i := 22) (v := ?vb22) rfl (by kernel_rfl) (by kernel_rfl) (by kernel_rfl) (fun _ _ _ h => h) (Or.inl ⟨by rfl, ?hyb22⟩) (by assumption) ?restb22
                        case hyb22 => (intro w' hSw; (try dsimp only at hSw); go_simp <;> with_reducible rfl)
                        try simp only [List.getElem_toArray, List.getElem_cons_succ, List.getElem_cons_zero, Act.put, List.setIfInBounds_toArray, List.set_cons_zero, List.set_cons_succ]
                        refine wpAnyH_ready (rs := [23]) (by kernel_rfl) (by simp) ?_
                        refine AllReadyH.cons rfl (fun K hK => ?_) AllReadyH.nil
                        go_simp
                        refine (HSM2.out _ (Below.refl _ _).drew).mono ?_
                        rintro e w9 ⟨rfl, bw9⟩
                        have HB9 := Lib.hid (show Below w8.heap.size w8 w9 from Lvl.undrew bw9)
                        clear bw9
                        refine hK.out _ _ (HK2.out _ HB9.out) (fun hHeld => ?_)
                        clear hK K
                        try simp only [List.getElem_toArray, List.getElem_cons_succ, List.getElem_cons_zero, Act.put, List.setIfInBounds_toArray, List.set_cons_zero, List.set_cons_succ]
                        refine wpAnyH_take (i := 24) (v := ?vb24) rfl (by kernel_rfl) (by kernel_rfl) (by kernel_rfl) (fun _ _ _ h => h) (Or.inl ⟨by rfl, ?hyb24⟩) (by assumption) ?restb24
                        case hyb24 => (intro w' hSw; (try dsimp only at hSw); go_simp <;> with_reducible rfl)
                        try simp only [List.getElem_toArray, List.getElem_cons_succ, List.getElem_cons_zero, Act.put, List.setIfInBounds_toArray, List.set_cons_zero, List.set_cons_succ]
                        refine wpAnyH_take (i := 25) (v := ?vb25) rfl (by kernel_rfl) (by kernel_rfl) (by kernel_rfl) (fun _ _ _ h => h) (Or.inl ⟨by rfl, ?hyb25⟩) (by assumption) ?restb25
                        case hyb25 => (intro w' hSw; (try dsimp only at hSw); go_simp <;> with_reducible rfl)
                        try simp only [List.getElem_toArray, List.getElem_cons_succ, List.getElem_cons_zero, Act.put, List.setIfInBounds_toArray, List.set_cons_zero, List.set_cons_succ]
                        refine wpAnyH_done (by kernel_rfl) ?_ _
                        go_wp2_with fail
                        go_roundw
                        case rel => exact ⟨j2 + 1, by go_num, by omega, Trm.go HB8.out HB9.out⟩
                        case measure => simp [intOf]; omega
                      · have hdq : decide ((q : Int) = (q2 : Int)) = false := decide_eq_false (by omega)
                        have hde : ((q : Int) == (q2 : Int)) = false := by simp; omega
                        rw [decide_eq_false hqq] at HSM2
                        clear hsame hej2 hm2 hmem2 hq2 hcn2 HM2 HQQ
                        go_upto_region 27 with fail
                        refine wp_region_held_drew (S := fun w' => w'.cell? ⟨g, j, none⟩ = some (.int .i64 q) ∧ w'.cell? ⟨g, j2, none⟩ = some (.int .i64 q2) ∧ w'.cell? ⟨b, off + j * 5, none⟩ = some (.int .u8 t.k) ∧ w'.cell? ⟨b, off + j * 5 + 1, none⟩ = some (.int .i64 t.n) ∧ w'.cell? ⟨b, off + j * 5 + 2, none⟩ = some (.string t.s) ∧ w'.cell? ⟨b, off + j * 5 + 3, none⟩ = some (.slice hd.lo t.ls.length hd.lc) ∧ w'.cell? ⟨b, off + j * 5 + 4, none⟩ = some (.slice hd.to t.ts.length hd.tc) ∧ w'.cell? ⟨b, off + j2 * 5, none⟩ = some (.int .u8 t2.k) ∧ w'.cell? ⟨b, off + j2 * 5 + 1, none⟩ = some (.int .i64 t2.n) ∧ w'.cell? ⟨b, off + j2 * 5 + 2, none⟩ = some (.string t2.s) ∧ w'.cell? ⟨b, off + j2 * 5 + 3, none⟩ = some (.slice hd2.lo t2.ls.length hd2.lc) ∧ w'.cell? ⟨b, off + j2 * 5 + 4, none⟩ = some (.slice hd2.to t2.ts.length hd2.tc)) (by kernel_rfl) (HK2.out _ (Below.refl _ _).drew) (fun hHeld => ?_)
                        refine wpAnyH_take (i := 0) (v := ?vc0) rfl (by kernel_rfl) (by kernel_rfl) (by kernel_rfl) (fun _ _ _ h => h) (Or.inl ⟨by rfl, ?hyc0⟩) (by assumption) ?restc0
                        case hyc0 => (intro w' hSw; (try dsimp only at hSw); go_simp <;> with_reducible rfl)
                        try simp only [List.getElem_toArray, List.getElem_cons_zero, Act.put, List.setIfInBounds_toArray, List.set_cons_zero, List.set_cons_succ]
                        refine wpAnyH_take (i := 1) (v := ?vc1) rfl (by kernel_rfl) (by kernel_rfl) (by kernel_rfl) (fun _ _ _ h => h) (Or.inl ⟨by rfl, ?hyc1⟩) (by assumption) ?restc1
                        case hyc1 => (intro w' hSw; (try dsimp only at hSw); go_simp <;> with_reducible rfl)
                        try simp only [List.getElem_toArray, List.getElem_cons_succ, List.getElem_cons_zero, Act.put, List.setIfInBounds_toArray, List.set_cons_zero, List.set_cons_succ]
                        refine wpAnyH_take (i := 2) (v := ?vc2) rfl (by kernel_rfl) (by kernel_rfl) (by kernel_rfl) (fun _ _ _ h => h) (Or.inl ⟨by rfl, ?hyc2⟩) (by assumption) ?restc2
                        case hyc2 => (intro w' hSw; (try dsimp only at hSw); go_simp <;> with_reducible rfl)
                        try simp only [List.getElem_toArray, List.getElem_cons_succ, List.getElem_cons_zero, Act.put, List.setIfInBounds_toArray, List.set_cons_zero, List.set_cons_succ]
                        refine wpAnyH_take (i := 3) (v := ?vc3) rfl (by kernel_rfl) (by kernel_rfl) (by kernel_rfl) (fun _ _ _ h => h) (Or.inl ⟨by rfl, ?hyc3⟩) (by assumption) ?restc3
                        case hyc3 => (intro w' hSw; (try dsimp only at hSw); go_simp <;> with_reducible rfl)
                        try simp only [List.getElem_toArray, List.getElem_cons_succ, List.getElem_cons_zero, Act.put, List.setIfInBounds_toArray, List.set_cons_zero, List.set_cons_succ]
                        refine wpAnyH_take (i := 4) (v := ?vc4) rfl (by kernel_rfl) (by kernel_rfl) (by kernel_rfl) (fun _ _ _ h => h) (Or.inl ⟨by rfl, ?hyc4⟩) (by assumption) ?restc4
                        case hyc4 => (intro w' hSw; (try dsimp only at hSw); go_simp <;> with_reducible rfl)
                        try simp only [List.getElem_toArray, List.getElem_cons_succ, List.getElem_cons_zero, Act.put, List.setIfInBounds_toArray, List.set_cons_zero, List.set_cons_succ]
                        refine wpAnyH_take (i := 5) (v := ?vc5) rfl (by kernel_rfl) (by kernel_rfl) (by kernel_rfl) (fun _ _ _ h => h) (Or.inl ⟨by rfl, ?hyc5⟩) (by assumption) ?restc5
                        case hyc5 => (intro w' hSw; (try dsimp only at hSw); go_simp <;> with_reducible rfl)
                        try simp only [List.getElem_toArray, List.getElem_cons_succ, List.getElem_cons_zero, Act.put, List.setIfInBounds_toArray, List.set_cons_zero, List.set_cons_succ]
                        refine wpAnyH_take (i := 6) (v := ?vc6) rfl (by kernel_rfl) (by kernel_rfl) (by kernel_rfl) (fun _ _ _ h => h) (Or.inl ⟨by rfl, ?hyc6⟩) (by assumption) ?restc6
                        case hyc6 => (intro w' hSw; (try dsimp only at hSw); go_simp <;> with_reducible rfl)
                        try simp only [List.getElem_toArray, List.getElem_cons_succ, List.getElem_cons_zero, Act.put, List.setIfInBounds_toArray, List.set_cons_zero, List.set_cons_succ]
                        refine wpAnyH_take (i := 7) (v := ?vc7) rfl (by kernel_rfl) (by kernel_rfl) (by kernel_rfl) (fun _ _ _ h => h) (Or.inl ⟨by rfl, ?hyc7⟩) (by assumption) ?restc7
                        case hyc7 => (intro w' hSw; (try dsimp only at hSw); go_simp <;> with_reducible rfl)
                        try simp only [List.getElem_toArray, List.getElem_cons_succ, List.getElem_cons_zero, Act.put, List.setIfInBounds_toArray, List.set_cons_zero, List.set_cons_succ]
                        refine wpAnyH_take (i := 8) (v := ?vc8) rfl (by kernel_rfl) (by kernel_rfl) (by kernel_rfl) (fun _ _ _ h => h) (Or.inl ⟨by rfl, ?hyc8⟩) (by assumption) ?restc8
                        case hyc8 => (intro w' hSw; (try dsimp only at hSw); go_simp <;> with_reducible rfl)
                        try simp only [List.getElem_toArray, List.getElem_cons_succ, List.getElem_cons_zero, Act.put, List.setIfInBounds_toArray, List.set_cons_zero, List.set_cons_succ]
                        refine wpAnyH_take (i := 9) (v := ?vc9) rfl (by kernel_rfl) (by kernel_rfl) (by kernel_rfl) (fun _ _ _ h => h) (Or.inl ⟨by rfl, ?hyc9⟩) (by assumption) ?restc9
                        case hyc9 => (intro w' hSw; (try dsimp only at hSw); go_simp <;> with_reducible rfl)
                        try simp only [List.getElem_toArray, List.getElem_cons_succ, List.getElem_cons_zero, Act.put, List.setIfInBounds_toArray, List.set_cons_zero, List.set_cons_succ]
                        refine wpAnyH_take (i := 10) (v := ?vc10) rfl (by kernel_rfl) (by kernel_rfl) (by kernel_rfl) (fun _ _ _ h => h) (Or.inl ⟨by rfl, ?hyc10⟩) (by assumption) ?restc10
                        case hyc10 => (intro w' hSw; (try dsimp only at hSw); go_simp <;> with_reducible rfl)
                        try simp only [List.getElem_toArray, List.getElem_cons_succ, List.getElem_cons_zero, Act.put, List.setIfInBounds_toArray, List.set_cons_zero, List.set_cons_succ]
                        refine wpAnyH_take (i := 11) (v := ?vc11) rfl (by kernel_rfl) (by kernel_rfl) (by kernel_rfl) (fun _ _ _ h => h) (Or.inl ⟨by rfl, ?hyc11⟩) (by assumption) ?restc11
                        case hyc11 => (intro w' hSw; (try dsimp only at hSw); go_simp <;> with_reducible rfl)
                        try simp only [List.getElem_toArray, List.getElem_cons_succ, List.getElem_cons_zero, Act.put, List.setIfInBounds_toArray, List.set_cons_zero, List.set_cons_succ]
                        refine wpAnyH_take (i := 12) (v := ?vc12) rfl (by kernel_rfl) (by kernel_rfl) (by kernel_rfl) (fun _ _ _ h => h) (Or.inl ⟨by rfl, ?hyc12⟩) (by assumption) ?restc12
                        case hyc12 => (intro w' hSw; (try dsimp only at hSw); go_simp <;> with_reducible rfl)
                        try simp only [List.getElem_toArray, List.getElem_cons_succ, List.getElem_cons_zero, Act.put, List.setIfInBounds_toArray, List.set_cons_zero, List.set_cons_succ]
                        refine wpAnyH_take (i := 13) (v := ?vc13) rfl (by kernel_rfl) (by kernel_rfl) (by kernel_rfl) (fun _ _ _ h => h) (Or.inl ⟨by rfl, ?hyc13⟩) (by assumption) ?restc13
                        case hyc13 => (intro w' hSw; (try dsimp only at hSw); go_simp <;> with_reducible rfl)
                        try simp only [List.getElem_toArray, List.getElem_cons_succ, List.getElem_cons_zero, Act.put, List.setIfInBounds_toArray, List.set_cons_zero, List.set_cons_succ]
                        refine wpAnyH_take (i := 14) (v := ?vc14) rfl (by kernel_rfl) (by kernel_rfl) (by kernel_rfl) (fun _ _ _ h => h) (Or.inl ⟨by rfl, ?hyc14⟩) (by assumption) ?restc14
                        case hyc14 => (intro w' hSw; (try dsimp only at hSw); go_simp <;> with_reducible rfl)
                        try simp only [List.getElem_toArray, List.getElem_cons_succ, List.getElem_cons_zero, Act.put, List.setIfInBounds_toArray, List.set_cons_zero, List.set_cons_succ]
                        refine wpAnyH_take (i := 15) (v := ?vc15) rfl (by kernel_rfl) (by kernel_rfl) (by kernel_rfl) (fun _ _ _ h => h) (Or.inl ⟨by rfl, ?hyc15⟩) (by assumption) ?restc15
                        case hyc15 => (intro w' hSw; (try dsimp only at hSw); go_simp <;> with_reducible rfl)
                        try simp only [List.getElem_toArray, List.getElem_cons_succ, List.getElem_cons_zero, Act.put, List.setIfInBounds_toArray, List.set_cons_zero, List.set_cons_succ]
                        refine wpAnyH_take (i := 16) (v := ?vc16) rfl (by kernel_rfl) (by kernel_rfl) (by kernel_rfl) (fun _ _ _ h => h) (Or.inl ⟨by rfl, ?hyc16⟩) (by assumption) ?restc16
                        case hyc16 => (intro w' hSw; (try dsimp only at hSw); go_simp <;> with_reducible rfl)
                        try simp only [List.getElem_toArray, List.getElem_cons_succ, List.getElem_cons_zero, Act.put, List.setIfInBounds_toArray, List.set_cons_zero, List.set_cons_succ]
                        refine wpAnyH_take (i := 17) (v := ?vc17) rfl (by kernel_rfl) (by kernel_rfl) (by kernel_rfl) (fun _ _ _ h => h) (Or.inl ⟨by rfl, ?hyc17⟩) (by assumption) ?restc17
                        case hyc17 => (intro w' hSw; (try dsimp only at hSw); go_simp <;> with_reducible rfl)
                        try simp only [List.getElem_toArray, List.getElem_cons_succ, List.getElem_cons_zero, Act.put, List.setIfInBounds_toArray, List.set_cons_zero, List.set_cons_succ]
                        refine wpAnyH_take (i := 18) (v := ?vc18) rfl (by kernel_rfl) (by kernel_rfl) (by kernel_rfl) (fun _ _ _ h => h) (Or.inl ⟨by rfl, ?hyc18⟩) (by assumption) ?restc18
                        case hyc18 => (intro w' hSw; (try dsimp only at hSw); go_simp <;> with_reducible rfl)
                        try simp only [List.getElem_toArray, List.getElem_cons_succ, List.getElem_cons_zero, Act.put, List.setIfInBounds_toArray, List.set_cons_zero, List.set_cons_succ]
                        refine wpAnyH_take (i := 19) (v := ?vc19) rfl (by kernel_rfl) (by kernel_rfl) (by kernel_rfl) (fun _ _ _ h => h) (Or.inl ⟨by rfl, ?hyc19⟩) (by assumption) ?restc19
                        case hyc19 => (intro w' hSw; (try dsimp only at hSw); go_simp <;> with_reducible rfl)
                        try simp only [List.getElem_toArray, List.getElem_cons_succ, List.getElem_cons_zero, Act.put, List.setIfInBounds_toArray, List.set_cons_zero, List.set_cons_succ]
                        refine wpAnyH_take (i := 20) (v := ?vc20) rfl (by kernel_rfl) (by kernel_rfl) (by kernel_rfl) (fun _ _ _ h => h) (Or.inl ⟨by rfl, ?hyc20⟩) (by assumption) ?restc20
                        case hyc20 => (intro w' hSw; (try dsimp only at hSw); go_simp <;> with_reducible rfl)
                        try simp only [List.getElem_toArray, List.getElem_cons_succ, List.getElem_cons_zero, Act.put, List.setIfInBounds_toArray, List.set_cons_zero, List.set_cons_succ]
                        refine wpAnyH_take (i := 21) (v := ?vc21) rfl (by kernel_rfl) (by kernel_rfl) (by kernel_rfl) (fun _ _ _ h => h) (Or.inl ⟨by rfl, ?hyc21⟩) (by assumption) ?restc21
                        case hyc21 => (intro w' hSw; (try dsimp only at hSw); go_simp <;> with_reducible rfl)
                        try simp only [List.getElem_toArray, List.getElem_cons_succ, List.getElem_cons_zero, Act.put, List.setIfInBounds_toArray, List.set_cons_zero, List.set_cons_succ]
                        refine wpAnyH_take (i := 22) (v := ?vc22) rfl (by kernel_rfl) (by kernel_rfl) (by kernel_rfl) (fun _ _ _ h => h) (Or.inl ⟨by rfl, ?hyc22⟩) (by assumption) ?restc22
                        case hyc22 => (intro w' hSw; (try dsimp only at hSw); go_simp <;> with_reducible rfl)
                        try simp only [List.getElem_toArray, List.getElem_cons_succ, List.getElem_cons_zero, Act.put, List.setIfInBounds_toArray, List.set_cons_zero, List.set_cons_succ]
                        refine wpAnyH_ready (rs := [23]) (by kernel_rfl) (by simp) ?_
                        refine AllReadyH.cons rfl (fun K hK => ?_) AllReadyH.nil
                        go_simp
                        refine (HSM2.out _ (Below.refl _ _).drew).mono ?_
                        rintro e w9 ⟨rfl, bw9⟩
                        have HB9 := Lib.hid (show Below w8.heap.size w8 w9 from Lvl.undrew bw9)
                        clear bw9
                        refine hK.out _ _ (HK2.out _ HB9.out) (fun hHeld => ?_)
                        clear hK K
                        try simp only [List.getElem_toArray, List.getElem_cons_succ, List.getElem_cons_zero, Act.put, List.setIfInBounds_toArray, List.set_cons_zero, List.set_cons_succ]
                        refine wpAnyH_take (i := 24) (v := ?vc24) rfl (by kernel_rfl) (by kernel_rfl) (by kernel_rfl) (fun _ _ _ h => h) (Or.inl ⟨by rfl, ?hyc24⟩) (by assumption) ?restc24
                        case hyc24 => (intro w' hSw; (try dsimp only at hSw); go_simp <;> with_reducible rfl)
                        try simp only [List.getElem_toArray, List.getElem_cons_succ, List.getElem_cons_zero, Act.put, List.setIfInBounds_toArray, List.set_cons_zero, List.set_cons_succ]
                        refine wpAnyH_take (i := 25) (v := ?vc25) rfl (by kernel_rfl) (by kernel_rfl) (by kernel_rfl) (fun _ _ _ h => h) (Or.inl ⟨by rfl, ?hyc25⟩) (by assumption) ?restc25
                        case hyc25 => (intro w' hSw; (try dsimp only at hSw); go_simp <;> with_reducible rfl)
                        try simp only [List.getElem_toArray, List.getElem_cons_succ, List.getElem_cons_zero, Act.put, List.setIfInBounds_toArray, List.set_cons_zero, List.set_cons_succ]
                        refine wpAnyH_done (by kernel_rfl) ?_ _
                        go_wp2_with fail
                        go_roundw
                        case rel => exact ⟨j2 + 1, by go_num, by omega, Trm.go HB8.out HB9.out⟩
                        case measure => simp [intOf]; omega
                  · have HS8 := Lib.hid (HS5.out.below HB8.out)
                    have hmq : M[q]'hql = t := by have h := num_get HMEM.out; simp only [← HQ.out] at h; exact h
                    have HKD := Lib.hid (AKids_some HS8.out.ar hql)
                    rw [hmq] at HKD
                    obtain ⟨⟨k0, k1, k2, k3, k4⟩, cn, _⟩ := HC5.out w8 HB8.out
                    clear hmq k0 k1 k2 k3
                    go_wp2_with fail
                    refine HKD.out.mono ?_
                    rintro e w9 ⟨aok, cpk, rfl, hik, _, b9⟩
                    have HIK := Lib.hid hik
                    have HB9 := Lib.hid (Trm.go HB8.out b9)
                    obtain ⟨⟨k0, k1, k2, k3, k4⟩, cn, _⟩ := HC5.out w9 HB9.out
                    have hts := node_few (may_node (HS5.out.ar.ok.may t HMEM.out))
                    have hts3 : t.ts.length ≤ 3 := hts.2.1
                    clear hik b9 HKD k0 k1 k2 k3 hts
                    go_wp2_with fail
                    go_loopw [16] (fun i wr2 => ∃ k3 : Nat, i = .int .i64 k3 ∧ k3 ≤ t.ts.length ∧ Below w9.heap.size w9 wr2) (fun i _ => t.ts.length - (intOf i).toNat)
                    case atStart => exact ⟨0, rfl, by omega, Below.refl _ _⟩
                    case round =>
                      obtain ⟨wC, hwC⟩ : ∃ x : World, x = wr := ⟨_, rfl⟩
                      subst hwC
                      obtain ⟨k3, rfl, hk3, hbC⟩ := hrel
                      have HBC := Lib.hid hbC
                      have HB5C := Lib.hid (Trm.go HB9.out hbC)
                      clear hbC cn
                      by_cases hk3l : k3 < t.ts.length
                      · have HSC := Lib.hid (HS5.out.below HB5C.out)
                        obtain ⟨y, hy0⟩ : ∃ y, y = t.ts[k3] := ⟨_, rfl⟩
                        have hyt : y ∈ t.ts := by rw [hy0]; exact List.getElem_mem hk3l
                        have hym : y ∈ M := HSC.out.ar.ok.part HMEM.out hyt
                        have hlt3 := num_part HSC.out.ar.ok HMEM.out hyt
                        rw [← HQ.out] at hlt3
                        obtain ⟨b3, off3, hao3, hck⟩ := (HIK.out.below HBC.out).place k3 (by unfold nums; rw [List.length_map]; exact hk3l)
                        have hnk : (nums M t)[k3]'(by unfold nums; rw [List.length_map]; exact hk3l) = num M y := by unfold nums; rw [List.getElem_map, ← hy0]
                        rw [hnk] at hck
                        subst hao3
                        obtain ⟨b4, off4, hto, hb4, hd4, hc4, hi4⟩ := RowIn.place (Tm.In_iff.1 (Tm.In.below (HB5C.out.mono HS5.out.bel.size) _ _ HI5.out)).2.2.2 k3 hk3l
                        rw [Nat.zero_add] at hc4
                        rw [← hy0] at hc4 hi4
                        have HGET := Lib.hid (AGet_some HSC.out.ar hym)
                        obtain ⟨q3, hq3⟩ : ∃ q3, q3 = num M y := ⟨_, rfl⟩
                        rw [← hq3] at HGET hck hlt3
                        have HTO := Lib.hid hto
                        have HC4 := Lib.hid hc4
                        have HI4 := Lib.hid hi4
                        have HB4 := Lib.hid hb4
                        have HCK := Lib.hid hck
                        have hlq : (q3 : Int) < (q : Int) := by omega
                        have hdq3 : decide ((q : Int) ≤ (q3 : Int)) = false := decide_eq_false (by omega)
                        have hdn3 : decide (q ≤ q3) = false := decide_eq_false (by omega)
                        have hnl3 : (q ≤ q3) = False := eq_false (by omega)
                        have hwk3 : IntKind.i64.wrap ((k3 : Int) + 1) = (k3 : Int) + 1 := IntWalk.i64_in _ (by omega)
                        clear hnk hyt hym hlt3 hq3 hto hc4 hi4 hb4 hy0
                        go_wp2_with fail
                        refine HGET.out.mono ?_
                        rintro e w10 ⟨h4, rfl, f10, b10⟩
                        have HA10 := Lib.hid f10.here
                        obtain ⟨W11, hW11⟩ : ∃ W11, W11 = w10.alloc (y.box h4) := ⟨_, rfl⟩
                        have B1011 := Lib.hid (show Below w10.heap.size w10 W11 from hW11 ▸ below_one _ _)
                        have B11 := Lib.hid (Trm.go b10 B1011.out)
                        have HX11 := Lib.hid (show W11.heap[w10.heap.size]? = some (y.box h4) from hW11 ▸ World.alloc_heap_new w10 _)
                        have HI11 := Lib.hid (carry HA10.out B1011.out)
                        have HS11 := Lib.hid (HSC.out.below B11.out)
                        have HI4b := Lib.hid (Tm.In.below (B11.out.mono HSC.out.bel.size) _ _ HI4.out)
                        have HSM3 := Lib.hid (fun (W : World) (hW : Below W11.heap.size W11 W) => (show Calls Try.prog 14 #[.agg #[.int .u8 y.k, .int .i64 y.n, .string y.s, .slice h4.lo y.ls.length h4.lc, .slice h4.to y.ts.length h4.tc], .agg #[.int .u8 y.k, .int .i64 y.n, .string y.s, .slice hd4.lo y.ls.length hd4.lc, .slice hd4.to y.ts.length hd4.tc]] W fun e w' => e = .returned (.bool true) ∧ Below W.heap.size W w' from
                          (show same y y = true from same_iff.2 rfl) ▸ RefSame_any y y h4 hd4 W (carry HI11.out hW) (Tm.In.mono (by have := hW.size; have := HS11.out.bel.size; omega) _ _ (Tm.In.below (hW.mono HS11.out.bel.size) _ _ HI4b.out))))
                        have HK3 := Lib.hid (fun (W : World) (hW : Below W11.heap.size W11 W) => (show W.cell? ⟨b3, off3 + k3, none⟩ = some (.int .i64 q3) ∧ W.cell? ⟨g, j, none⟩ = some (.int .i64 q) ∧ W.cell? ⟨w10.heap.size, 0, none⟩ = some (.int .u8 y.k) ∧ W.cell? ⟨w10.heap.size, 1, none⟩ = some (.int .i64 y.n) ∧ W.cell? ⟨w10.heap.size, 2, none⟩ = some (.string y.s) ∧ W.cell? ⟨w10.heap.size, 3, none⟩ = some (.slice h4.lo y.ls.length h4.lc) ∧ W.cell? ⟨w10.heap.size, 4, none⟩ = some (.slice h4.to y.ts.length h4.tc) ∧ W.cell? ⟨b, off + j * 5 + 4, none⟩ = some (.slice (some ⟨b4, off4, none⟩) t.ts.length hd.tc) ∧ W.cell? ⟨b4, off4 + k3 * 5, none⟩ = some (.int .u8 y.k) ∧ W.cell? ⟨b4, off4 + k3 * 5 + 1, none⟩ = some (.int .i64 y.n) ∧ W.cell? ⟨b4, off4 + k3 * 5 + 2, none⟩ = some (.string y.s) ∧ W.cell? ⟨b4, off4 + k3 * 5 + 3, none⟩ = some (.slice hd4.lo y.ls.length hd4.lc) ∧ W.cell? ⟨b4, off4 + k3 * 5 + 4, none⟩ = some (.slice hd4.to y.ts.length hd4.tc) from by
                          have b5W := Trm.go HB5C.out (Trm.go B11.out hW)
                          obtain ⟨⟨k0, k1, k2, k3, k4⟩, cn, _⟩ := HC5.out W b5W
                          rw [HTO.out] at k4
                          obtain ⟨x0, x1, x2, x3, x4⟩ := Tm.cells (Lvl.keep hW HX11.out)
                          obtain ⟨y0, y1, y2, y3, y4⟩ := HC4.out.below ((B11.out.mono HSC.out.bel.size).trans (hW.mono HS11.out.bel.size)) HB4.out
                          have c3 := ((Trm.go B11.out hW).cell (World.block_lt_of_cell? _ _ HCK.out)).trans HCK.out
                          exact ⟨c3, cn, x0, x1, x2, x3, x4, k4, y0, y1, y2, y3, y4⟩))
                        unfold Tm.box Tm.vals at hW11
                        unfold Tm.val Tm.vals
                        clear f10 b10 HGET hck
                        go_upto_region 36 with fail
                        rw [← hW11]
                        clear hW11
                        refine wp_region_held_drew (S := fun w' => w'.cell? ⟨b3, off3 + k3, none⟩ = some (.int .i64 q3) ∧ w'.cell? ⟨g, j, none⟩ = some (.int .i64 q) ∧ w'.cell? ⟨w10.heap.size, 0, none⟩ = some (.int .u8 y.k) ∧ w'.cell? ⟨w10.heap.size, 1, none⟩ = some (.int .i64 y.n) ∧ w'.cell? ⟨w10.heap.size, 2, none⟩ = some (.string y.s) ∧ w'.cell? ⟨w10.heap.size, 3, none⟩ = some (.slice h4.lo y.ls.length h4.lc) ∧ w'.cell? ⟨w10.heap.size, 4, none⟩ = some (.slice h4.to y.ts.length h4.tc) ∧ w'.cell? ⟨b, off + j * 5 + 4, none⟩ = some (.slice (some ⟨b4, off4, none⟩) t.ts.length hd.tc) ∧ w'.cell? ⟨b4, off4 + k3 * 5, none⟩ = some (.int .u8 y.k) ∧ w'.cell? ⟨b4, off4 + k3 * 5 + 1, none⟩ = some (.int .i64 y.n) ∧ w'.cell? ⟨b4, off4 + k3 * 5 + 2, none⟩ = some (.string y.s) ∧ w'.cell? ⟨b4, off4 + k3 * 5 + 3, none⟩ = some (.slice hd4.lo y.ls.length hd4.lc) ∧ w'.cell? ⟨b4, off4 + k3 * 5 + 4, none⟩ = some (.slice hd4.to y.ts.length hd4.tc)) (by kernel_rfl) (HK3.out _ (Below.refl _ _).drew) (fun hHeld => ?_)
                        refine wpAnyH_take (i := 0) (v := ?vd0) rfl (by kernel_rfl) (by kernel_rfl) (by kernel_rfl) (fun _ _ _ h => h) (Or.inl ⟨by rfl, ?hyd0⟩) (by assumption) ?restd0
                        case hyd0 => (intro w' hSw; (try dsimp only at hSw); go_simp <;> with_reducible rfl)
                        try simp only [List.getElem_toArray, List.getElem_cons_zero, Act.put, List.setIfInBounds_toArray, List.set_cons_zero, List.set_cons_succ]
                        refine wpAnyH_take (i := 1) (v := ?vd1) rfl (by kernel_rfl) (by kernel_rfl) (by kernel_rfl) (fun _ _ _ h => h) (Or.inl ⟨by rfl, ?hyd1⟩) (by assumption) ?restd1
                        case hyd1 => (intro w' hSw; (try dsimp only at hSw); go_simp <;> with_reducible rfl)
                        try simp only [List.getElem_toArray, List.getElem_cons_succ, List.getElem_cons_zero, Act.put, List.setIfInBounds_toArray, List.set_cons_zero, List.set_cons_succ]
                        refine wpAnyH_take (i := 2) (v := ?vd2) rfl (by kernel_rfl) (by kernel_rfl) (by kernel_rfl) (fun _ _ _ h => h) (Or.inl ⟨by rfl, ?hyd2⟩) (by assumption) ?restd2
                        case hyd2 => (intro w' hSw; (try dsimp only at hSw); go_simp <;> with_reducible rfl)
                        try simp only [List.getElem_toArray, List.getElem_cons_succ, List.getElem_cons_zero, Act.put, List.setIfInBounds_toArray, List.set_cons_zero, List.set_cons_succ]
                        refine wpAnyH_take (i := 3) (v := ?vd3) rfl (by kernel_rfl) (by kernel_rfl) (by kernel_rfl) (fun _ _ _ h => h) (Or.inl ⟨by rfl, ?hyd3⟩) (by assumption) ?restd3
                        case hyd3 => (intro w' hSw; (try dsimp only at hSw); go_simp <;> with_reducible rfl)
                        try simp only [List.getElem_toArray, List.getElem_cons_succ, List.getElem_cons_zero, Act.put, List.setIfInBounds_toArray, List.set_cons_zero, List.set_cons_succ]
                        refine wpAnyH_take (i := 4) (v := ?vd4) rfl (by kernel_rfl) (by kernel_rfl) (by kernel_rfl) (fun _ _ _ h => h) (Or.inl ⟨by rfl, ?hyd4⟩) (by assumption) ?restd4
                        case hyd4 => (intro w' hSw; (try dsimp only at hSw); go_simp <;> with_reducible rfl)
                        try simp only [List.getElem_toArray, List.getElem_cons_succ, List.getElem_cons_zero, Act.put, List.setIfInBounds_toArray, List.set_cons_zero, List.set_cons_succ]
                        refine wpAnyH_take (i := 5) (v := ?vd5) rfl (by kernel_rfl) (by kernel_rfl) (by kernel_rfl) (fun _ _ _ h => h) (Or.inl ⟨by rfl, ?hyd5⟩) (by assumption) ?restd5
                        case hyd5 => (intro w' hSw; (try dsimp only at hSw); go_simp <;> with_reducible rfl)
                        try simp only [List.getElem_toArray, List.getElem_cons_succ, List.getElem_cons_zero, Act.put, List.setIfInBounds_toArray, List.set_cons_zero, List.set_cons_succ]
                        refine wpAnyH_take (i := 6) (v := ?vd6) rfl (by kernel_rfl) (by kernel_rfl) (by kernel_rfl) (fun _ _ _ h => h) (Or.inl ⟨by rfl, ?hyd6⟩) (by assumption) ?restd6
                        case hyd6 => (intro w' hSw; (try dsimp only at hSw); go_simp <;> with_reducible rfl)
                        try simp only [List.getElem_toArray, List.getElem_cons_succ, List.getElem_cons_zero, Act.put, List.setIfInBounds_toArray, List.set_cons_zero, List.set_cons_succ]
                        refine wpAnyH_take (i := 7) (v := ?vd7) rfl (by kernel_rfl) (by kernel_rfl) (by kernel_rfl) (fun _ _ _ h => h) (Or.inl ⟨by rfl, ?hyd7⟩) (by assumption) ?restd7
                        case hyd7 => (intro w' hSw; (try dsimp only at hSw); go_simp <;> with_reducible rfl)
                        try simp only [List.getElem_toArray, List.getElem_cons_succ, List.getElem_cons_zero, Act.put, List.setIfInBounds_toArray, List.set_cons_zero, List.set_cons_succ]
                        refine wpAnyH_take (i := 8) (v := ?vd8) rfl (by kernel_rfl) (by kernel_rfl) (by kernel_rfl) (fun _ _ _ h => h) (Or.inl ⟨by rfl, ?hyd8⟩) (by assumption) ?restd8
                        case hyd8 => (intro w' hSw; (try dsimp only at hSw); go_simp <;> with_reducible rfl)
                        try simp only [List.getElem_toArray, List.getElem_cons_succ, List.getElem_cons_zero, Act.put, List.setIfInBounds_toArray, List.set_cons_zero, List.set_cons_succ]
                        refine wpAnyH_take (i := 9) (v := ?vd9) rfl (by kernel_rfl) (by kernel_rfl) (by kernel_rfl) (fun _ _ _ h => h) (Or.inl ⟨by rfl, ?hyd9⟩) (by assumption) ?restd9
                        case hyd9 => (intro w' hSw; (try dsimp only at hSw); go_simp <;> with_reducible rfl)
                        try simp only [List.getElem_toArray, List.getElem_cons_succ, List.getElem_cons_zero, Act.put, List.setIfInBounds_toArray, List.set_cons_zero, List.set_cons_succ]
                        refine wpAnyH_take (i := 10) (v := ?vd10) rfl (by kernel_rfl) (by kernel_rfl) (by kernel_rfl) (fun _ _ _ h => h) (Or.inl ⟨by rfl, ?hyd10⟩) (by assumption) ?restd10
                        case hyd10 => (intro w' hSw; (try dsimp only at hSw); go_simp <;> with_reducible rfl)
                        try simp only [List.getElem_toArray, List.getElem_cons_succ, List.getElem_cons_zero, Act.put, List.setIfInBounds_toArray, List.set_cons_zero, List.set_cons_succ]
                        refine wpAnyH_take (i := 11) (v := ?vd11) rfl (by kernel_rfl) (by kernel_rfl) (by kernel_rfl) (fun _ _ _ h => h) (Or.inl ⟨by rfl, ?hyd11⟩) (by assumption) ?restd11
                        case hyd11 => (intro w' hSw; (try dsimp only at hSw); go_simp <;> with_reducible rfl)
                        try simp only [List.getElem_toArray, List.getElem_cons_succ, List.getElem_cons_zero, Act.put, List.setIfInBounds_toArray, List.set_cons_zero, List.set_cons_succ]
                        refine wpAnyH_take (i := 12) (v := ?vd12) rfl (by kernel_rfl) (by kernel_rfl) (by kernel_rfl) (fun _ _ _ h => h) (Or.inl ⟨by rfl, ?hyd12⟩) (by assumption) ?restd12
                        case hyd12 => (intro w' hSw; (try dsimp only at hSw); go_simp <;> with_reducible rfl)
                        try simp only [List.getElem_toArray, List.getElem_cons_succ, List.getElem_cons_zero, Act.put, List.setIfInBounds_toArray, List.set_cons_zero, List.set_cons_succ]
                        refine wpAnyH_take (i := 13) (v := ?vd13) rfl (by kernel_rfl) (by kernel_rfl) (by kernel_rfl) (fun _ _ _ h => h) (Or.inl ⟨by rfl, ?hyd13⟩) (by assumption) ?restd13
                        case hyd13 => (intro w' hSw; (try dsimp only at hSw); go_simp <;> with_reducible rfl)
                        try simp only [List.getElem_toArray, List.getElem_cons_succ, List.getElem_cons_zero, Act.put, List.setIfInBounds_toArray, List.set_cons_zero, List.set_cons_succ]
                        refine wpAnyH_take (i := 14) (v := ?vd14) rfl (by kernel_rfl) (by kernel_rfl) (by kernel_rfl) (fun _ _ _ h => h) (Or.inl ⟨by rfl, ?hyd14⟩) (by assumption) ?restd14
                        case hyd14 => (intro w' hSw; (try dsimp only at hSw); go_simp <;> with_reducible rfl)
                        try simp only [List.getElem_toArray, List.getElem_cons_succ, List.getElem_cons_zero, Act.put, List.setIfInBounds_toArray, List.set_cons_zero, List.set_cons_succ]
                        refine wpAnyH_take (i := 15) (v := ?vd15) rfl (by kernel_rfl) (by kernel_rfl) (by kernel_rfl) (fun _ _ _ h => h) (Or.inl ⟨by rfl, ?hyd15⟩) (by assumption) ?restd15
                        case hyd15 => (intro w' hSw; (try dsimp only at hSw); go_simp <;> with_reducible rfl)
                        try simp only [List.getElem_toArray, List.getElem_cons_succ, List.getElem_cons_zero, Act.put, List.setIfInBounds_toArray, List.set_cons_zero, List.set_cons_succ]
                        refine wpAnyH_take (i := 16) (v := ?vd16) rfl (by kernel_rfl) (by kernel_rfl) (by kernel_rfl) (fun _ _ _ h => h) (Or.inl ⟨by rfl, ?hyd16⟩) (by assumption) ?restd16
                        case hyd16 => (intro w' hSw; (try dsimp only at hSw); go_simp <;> with_reducible rfl)
                        try simp only [List.getElem_toArray, List.getElem_cons_succ, List.getElem_cons_zero, Act.put, List.setIfInBounds_toArray, List.set_cons_zero, List.set_cons_succ]
                        refine wpAnyH_take (i := 17) (v := ?vd17) rfl (by kernel_rfl) (by kernel_rfl) (by kernel_rfl) (fun _ _ _ h => h) (Or.inl ⟨by rfl, ?hyd17⟩) (by assumption) ?restd17
                        case hyd17 => (intro w' hSw; (try dsimp only at hSw); go_simp <;> with_reducible rfl)
                        try simp only [List.getElem_toArray, List.getElem_cons_succ, List.getElem_cons_zero, Act.put, List.setIfInBounds_toArray, List.set_cons_zero, List.set_cons_succ]
                        refine wpAnyH_take (i := 18) (v := ?vd18) rfl (by kernel_rfl) (by kernel_rfl) (by kernel_rfl) (fun _ _ _ h => h) (Or.inl ⟨by rfl, ?hyd18⟩) (by assumption) ?restd18
                        case hyd18 => (intro w' hSw; (try dsimp only at hSw); go_simp <;> with_reducible rfl)
                        try simp only [List.getElem_toArray, List.getElem_cons_succ, List.getElem_cons_zero, Act.put, List.setIfInBounds_toArray, List.set_cons_zero, List.set_cons_succ]
                        refine wpAnyH_take (i := 19) (v := ?vd19) rfl (by kernel_rfl) (by kernel_rfl) (by kernel_rfl) (fun _ _ _ h => h) (Or.inl ⟨by rfl, ?hyd19⟩) (by assumption) ?restd19
                        case hyd19 => (intro w' hSw; (try dsimp only at hSw); go_simp <;> with_reducible rfl)
                        try simp only [List.getElem_toArray, List.getElem_cons_succ, List.getElem_cons_zero, Act.put, List.setIfInBounds_toArray, List.set_cons_zero, List.set_cons_succ]
                        refine wpAnyH_take (i := 20) (v := ?vd20) rfl (by kernel_rfl) (by kernel_rfl) (by kernel_rfl) (fun _ _ _ h => h) (Or.inl ⟨by rfl, ?hyd20⟩) (by assumption) ?restd20
                        case hyd20 => (intro w' hSw; (try dsimp only at hSw); go_simp <;> with_reducible rfl)
                        try simp only [List.getElem_toArray, List.getElem_cons_succ, List.getElem_cons_zero, Act.put, List.setIfInBounds_toArray, List.set_cons_zero, List.set_cons_succ]
                        refine wpAnyH_take (i := 21) (v := ?vd21) rfl (by kernel_rfl) (by kernel_rfl) (by kernel_rfl) (fun _ _ _ h => h) (Or.inl ⟨by rfl, ?hyd21⟩) (by assumption) ?restd21
                        case hyd21 => (intro w' hSw; (try dsimp only at hSw); go_simp <;> with_reducible rfl)
                        try simp only [List.getElem_toArray, List.getElem_cons_succ, List.getElem_cons_zero, Act.put, List.setIfInBounds_toArray, List.set_cons_zero, List.set_cons_succ]
                        refine wpAnyH_take (i := 22) (v := ?vd22) rfl (by kernel_rfl) (by kernel_rfl) (by kernel_rfl) (fun _ _ _ h => h) (Or.inl ⟨by rfl, ?hyd22⟩) (by assumption) ?restd22
                        case hyd22 => (intro w' hSw; (try dsimp only at hSw); go_simp <;> with_reducible rfl)
                        try simp only [List.getElem_toArray, List.getElem_cons_succ, List.getElem_cons_zero, Act.put, List.setIfInBounds_toArray, List.set_cons_zero, List.set_cons_succ]
                        refine wpAnyH_ready (rs := [23]) (by kernel_rfl) (by simp) ?_
                        refine AllReadyH.cons rfl (fun K hK => ?_) AllReadyH.nil
                        go_simp
                        refine (HSM3.out _ (Below.refl _ _).drew).mono ?_
                        rintro e w12 ⟨rfl, bw12⟩
                        have HB12 := Lib.hid (show Below W11.heap.size W11 w12 from Lvl.undrew bw12)
                        clear bw12
                        refine hK.out _ _ (HK3.out _ HB12.out) (fun hHeld => ?_)
                        clear hK K
                        try simp only [List.getElem_toArray, List.getElem_cons_succ, List.getElem_cons_zero, Act.put, List.setIfInBounds_toArray, List.set_cons_zero, List.set_cons_succ]
                        refine wpAnyH_take (i := 24) (v := ?vd24) rfl (by kernel_rfl) (by kernel_rfl) (by kernel_rfl) (fun _ _ _ h => h) (Or.inl ⟨by rfl, ?hyd24⟩) (by assumption) ?restd24
                        case hyd24 => (intro w' hSw; (try dsimp only at hSw); go_simp <;> with_reducible rfl)
                        try simp only [List.getElem_toArray, List.getElem_cons_succ, List.getElem_cons_zero, Act.put, List.setIfInBounds_toArray, List.set_cons_zero, List.set_cons_succ]
                        refine wpAnyH_take (i := 25) (v := ?vd25) rfl (by kernel_rfl) (by kernel_rfl) (by kernel_rfl) (fun _ _ _ h => h) (Or.inl ⟨by rfl, ?hyd25⟩) (by assumption) ?restd25
                        case hyd25 => (intro w' hSw; (try dsimp only at hSw); go_simp <;> with_reducible rfl)
                        try simp only [List.getElem_toArray, List.getElem_cons_succ, List.getElem_cons_zero, Act.put, List.setIfInBounds_toArray, List.set_cons_zero, List.set_cons_succ]
                        refine wpAnyH_done (by kernel_rfl) ?_ _
                        go_wp2_with fail
                        go_roundw
                        case rel => exact ⟨k3 + 1, by go_num, by omega, Trm.go HBC.out (Trm.go B11.out HB12.out)⟩
                        case measure => simp [intOf]; omega
                      · have hwj : IntKind.i64.wrap ((j : Int) + 1) = (j : Int) + 1 := HWJ.out
                        go_wp2_with fail
                        go_roundw
                        case rel => exact ⟨j + 1, va5, mo5, by go_num, by omega, HS5.out.below HB5C.out⟩
                        case measure => simp [intOf]; omega
          · go_wp2_with fail
            refine (works5_any _).mono ?_
            rintro e w7 ⟨rfl, b7⟩
            have H7 := Lib.hid (Trm.go HS.out.bel b7)
            clear b7
            go_wp2_with fail
            go_ret
            exact ⟨rfl, H7.out⟩
  · go_wp2_with fail
    refine (works5_any _).mono ?_
    rintro e w2 ⟨rfl, b2⟩
    have H2 := Lib.hid (Trm.go H1.out b2)
    clear b2 H1
    go_wp2_with fail
    go_ret
    exact ⟨rfl, H2.out⟩
end Go.Proofs.Ytgbegbjlbheieaa

