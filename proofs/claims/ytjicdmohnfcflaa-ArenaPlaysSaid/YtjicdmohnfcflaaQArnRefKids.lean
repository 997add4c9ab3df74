/-
  battenref05.Arena's Put and Kids.
-/
import Derived.Test.YtjicdmohnfcflaaQArnRefPut
import Derived.Test.YtjicdmohnfcflaaQArnGet
import Derived.Test.YtjicdmohnfcflaaQB4
namespace Go.Proofs.Ytjicdmohnfcflaa
open Go.RowKit Go.Shelf Go.Maps Lvl Trm Arn

namespace Arn
/-- The document's arena, moved on. -/
def RMoved (B b0 bb : Nat) (v : Value) (M : List Tm) (w w' : World) : Prop :=
  ∃ v' ps', RB B b0 w' bb M v' ps' ∧ (∀ q, v'.ownBlock = some q → v.ownBlock = some q ∨ w.heap.size ≤ q) ∧ RanS (fun q => q = bb ∨ v.ownBlock = some q) w w'
def RPutPost (B b0 bb : Nat) (t : Tm) (L : List Tm) (v : Value) (w : World) (e : Ending) (w' : World) : Prop :=
  (t.may = true → e = .returned (.tuple #[.int .i64 (num (Tm.ins t L) t : Nat), .int .i64 0]) ∧ RMoved B b0 bb v (Tm.ins t L) w w') ∧ (t.may = false → e = .returned (.tuple #[.int .i64 0, .int .i64 1]) ∧ RMoved B b0 bb v L w w')
noncomputable def numV (L ts : List Tm) : List Value := ts.map fun t => .int .i64 (num L t : Nat)
theorem numV_len (L ts : List Tm) : (numV L ts).length = ts.length := by unfold numV; rw [List.length_map]
theorem numV_snoc {L ts : List Tm} {k : Nat} (h : k < ts.length) : numV L (ts.take (k + 1)) = numV L (ts.take k) ++ [.int .i64 (num L ts[k] : Nat)] := by
  unfold numV
  rw [List.take_succ_eq_append_getElem h, List.map_append]
  rfl
def KRel (w : World) (x : Tm) (L : List Tm) (v i : Value) (wr : World) : Prop :=
  ∃ k : Nat, i = .int .i64 k ∧ k ≤ x.ts.length ∧ wr.ownsRow w.heap.size 3 1 v k (numV L (x.ts.take k)) ∧ Below w.heap.size w wr
theorem irow_of_own {w : World} {base n : Nat} {v : Value} {L : List Tm} {x : Tm} (hn : n = x.ts.length) (h : w.ownsRow base 3 1 v n (numV L x.ts)) : ∃ ao cp, v = .slice ao x.ts.length cp ∧ IRow w ao (nums L x) ∧ ∀ a, ao = some a → base ≤ a.block := by
  subst hn
  rcases h.2 with ⟨hv, h0⟩ | ⟨g, cap, cur, hv, hb, hg, _⟩
  · exact ⟨none, 0, by rw [hv, h0], ⟨fun k hk => by unfold nums at hk; rw [List.length_map] at hk; omega⟩, fun a ha => by cases ha⟩
  · refine ⟨_, cap, hv, ⟨fun k hk => ?_⟩, fun a ha => by injection ha with ha; subst ha; exact hb⟩
    have hk2 : k < x.ts.length := by unfold nums at hk; rwa [List.length_map] at hk
    have h1 := h.cells (g := g) (by rw [hv]; rfl) k (.int .i64 (num L x.ts[k] : Nat)) (by unfold numV; rw [List.getElem?_map, List.getElem?_eq_getElem hk2]; rfl)
    have hadd : (⟨g, 0, none⟩ : Addr).add k = ⟨g, 0 + k, none⟩ := by unfold Addr.add; split <;> simp_all
    rw [hadd] at h1
    exact ⟨g, 0, rfl, by rw [h1]; simp [nums]⟩
theorem ownRow_slice {w : World} {base : Nat} {e : TypeId} {size : Nat} {v : Value} {n : Nat} {xs : List Value} (h : w.ownsRow base e size v n xs) : ∃ ao cp, v = .slice ao n cp := by
  rcases h.2 with ⟨hv, h0⟩ | ⟨g, cap, cur, hv, _⟩
  · exact ⟨none, 0, by rw [hv, h0]⟩
  · exact ⟨_, cap, hv⟩
end Arn

set_option maxRecDepth 100000 in
set_option maxHeartbeats 2000000 in
theorem RPut_any {B b0 : Nat} {w : World} {bb : Nat} {L : List Tm} {v : Value} {ps : List (Tm × Hd)} (hrb : RB B b0 w bb L v ps) (t : Tm) (h : Hd) (hin : t.In B w h) (hlen : (L.length : Int) + t.size ≤ 1000000) (hok : OkL L) :
    Calls Try.prog 9 #[.pointer (some ⟨bb, 0, none⟩), t.val h] w (RPutPost B b0 bb t L v w) := by
  have hBw : B ≤ w.heap.size := by have := hrb.row.le; have := hrb.row.b0le; omega
  obtain ⟨wA, hwA⟩ : ∃ wA, wA = w.alloc (t.box h) := ⟨_, rfl⟩
  have HBA := Lib.hid (show Below w.heap.size w wA from hwA ▸ below_one _ _)
  have HBX := Lib.hid (show wA.heap[w.heap.size]? = some (t.box h) from hwA ▸ World.alloc_heap_new w _)
  have HMY := Lib.hid (RefTMay_any t h wA (Tm.In.mono (by have := HBA.out.size; omega) _ _ (Tm.In.below (HBA.out.mono hBw) _ _ hin)))
  have HRP := Lib.hid (fun (w1 : World) (b1 : Below wA.heap.size wA w1) (hm : t.may = true) => rput_any B b0 bb t w1 L v ps h (hrb.below (Trm.go HBA.out b1)) (Tm.In.below ((Trm.go HBA.out b1).mono hBw) _ _ hin) hlen hok hm)
  have HNO : Hid (∀ w1, Below wA.heap.size wA w1 → RMoved B b0 bb v L w w1) := Lib.hid (fun w1 b1 => ⟨v, ps, hrb.below (Trm.go HBA.out b1), fun q hq => Or.inl hq, RanS.of_below (Trm.go HBA.out b1)⟩)
  clear hrb hin hlen hok
  obtain ⟨N, hN⟩ : ∃ N, N = num (Tm.ins t L) t := ⟨_, rfl⟩
  have HN := Lib.hid hN
  clear hN
  unfold Tm.val Tm.vals at *
  go_enter Try.func9, Try.ntmps9
  go_wp2_with fail
  unfold Tm.box Tm.vals at hwA
  rw [← hwA]
  clear hwA
  obtain ⟨c0, c1, c2, c3, c4⟩ := Tm.cells HBX.out
  go_wp2_with fail
  refine HMY.out.mono ?_
  rintro e w1 ⟨rfl, b1⟩
  have HB1 := Lib.hid b1
  clear b1 HMY c0 c1 c2 c3 c4
  cases hm : t.may
  · have HR := Lib.hid (HNO.out _ HB1.out)
    have HPO : Hid (RPutPost B b0 bb t L v w (.returned (.tuple #[.int .i64 0, .int .i64 1])) w1) := Lib.hid (show RPutPost B b0 bb t L v w _ w1 from And.intro (fun hh => by rw [hm] at hh; cases hh) (fun _ => And.intro rfl HR.out))
    clear hm
    go_wp2_with fail
    exact bodyPost_ret (v := .tuple #[.int .i64 0, .int .i64 1]) (by simp [results, Try.results9, go_sem]) rfl HPO.out
  · have HMM := Lib.hid hm
    clear hm
    have HX := Lib.hid (HRP.out _ HB1.out HMM.out)
    obtain ⟨c0, c1, c2, c3, c4⟩ := Tm.cells (Lvl.keep HB1.out HBX.out)
    go_wp2_with fail
    refine HX.out.mono ?_
    rintro e w2 ⟨v', ps', rfl, hrb2, hov2, hran2⟩
    have HPO : Hid (RPutPost B b0 bb t L v w (.returned (.tuple #[.int .i64 N, .int .i64 0])) w2) := Lib.hid ⟨fun _ => ⟨by rw [HN.out], v', ps', hrb2, fun q hq => (hov2 q hq).imp id (fun h1 => by have := HBA.out.size; have := HB1.out.size; omega), ranS_go (RanS.of_below (Trm.go HBA.out HB1.out)) hran2 (fun q hq => Or.inl hq)⟩, fun hh => by rw [HMM.out] at hh; cases hh⟩
    rw [← HN.out]
    clear hrb2 hov2 hran2 c0 c1 c2 c3 c4
    go_wp2_with fail
    exact bodyPost_ret (v := .tuple #[.int .i64 N, .int .i64 0]) (by simp [results, Try.results9, go_sem]) rfl HPO.out

set_option maxRecDepth 100000 in
set_option maxHeartbeats 2000000 in
theorem RKids_none {B b0 : Nat} {w : World} {bb : Nat} {L : List Tm} {v : Value} {ps : List (Tm × Hd)} (hr : RB B b0 w bb L v ps) (n : Int) (hn : n < 0 ∨ (L.length : Int) ≤ n) (_hlen : (L.length : Int) ≤ 1000000) :
    Calls Try.prog 17 #[.pointer (some ⟨bb, 0, none⟩), .int .i64 n] w fun e w' => e = .returned (.tuple #[.slice none 0 0, .int .i64 6]) ∧ Below w.heap.size w w' := by
  obtain ⟨ao, cp, hv⟩ := ownRow_slice hr.row.row
  have d0 := one_cell hr.box
  rw [hv, hr.row.len] at d0
  clear hr hv
  by_cases h0 : n < 0
  · have hd0 : decide (n < 0) = true := decide_eq_true h0
    go_enter Try.func17, Try.ntmps17
    go_wp2_with fail
    exact bodyPost_ret (v := .tuple #[.slice none 0 0, .int .i64 6]) (by simp [results, Try.results17, go_sem]) rfl ⟨rfl, Below.refl _ _⟩
  · have hd0 : decide (n < 0) = false := decide_eq_false h0
    have hd1 : decide ((L.length : Int) ≤ n) = true := decide_eq_true (by omega)
    go_enter Try.func17, Try.ntmps17
    go_wp2_with fail
    exact bodyPost_ret (v := .tuple #[.slice none 0 0, .int .i64 6]) (by simp [results, Try.results17, go_sem]) rfl ⟨rfl, Below.refl _ _⟩

set_option maxRecDepth 100000 in
set_option maxHeartbeats 8000000 in
theorem RKids_some {B b0 : Nat} {w : World} {bb : Nat} {L : List Tm} {v : Value} {ps : List (Tm × Hd)} (hr : RB B b0 w bb L v ps) {n : Nat} (hn : n < L.length) (hlen : (L.length : Int) ≤ 1000000) (hok : OkL L) :
    Calls Try.prog 17 #[.pointer (some ⟨bb, 0, none⟩), .int .i64 n] w (KidsPost L L[n] w) := by
  have hpl := hr.row.len
  have hnp : n < ps.length := by omega
  have hxe : ps[n].1 = L[n] := by
    have h2 : (ps.map (·.1))[n]'(by rw [List.length_map]; exact hnp) = ps[n].1 := List.getElem_map _
    rw [← h2]
    simp only [hr.row.map]
  have hl3 : L[n].ts.length ≤ 3 := (node_few (may_node (hok.may _ (List.getElem_mem hn)))).2.1
  obtain ⟨ao, cp, hv⟩ := ownRow_slice hr.row.row
  subst hv
  obtain ⟨g, cap, hsl, hcl, hgl⟩ := own_row_cells rfl hr.row.row hnp
  injection hsl with hs1 hs2 hs3
  subst hs1
  have hla := hr.row.lie _ (List.getElem_mem hnp)
  have HKID := Lib.hid (show ∀ y ∈ L[n].ts, y ∈ L from fun y hy => (List.take_prefix n L).subset (hok.kids n hn y hy))
  obtain ⟨hh, hhe⟩ : ∃ hh, hh = ps[n].2 := ⟨_, rfl⟩
  rw [hxe] at hla hcl
  rw [← hhe] at hla hcl
  obtain ⟨x, hx⟩ : ∃ x, x = L[n] := ⟨_, rfl⟩
  rw [← hx] at hla hcl hl3 HKID ⊢
  have HRB := Lib.hid hr
  have HCL := Lib.hid hcl
  have HLA := Lib.hid hla
  have HOK := Lib.hid hok
  have HLEN := Lib.hid hlen
  have hBw : B ≤ w.heap.size := by have := hr.row.le; have := hr.row.b0le; omega
  have d0 := one_cell hr.box
  rw [hpl] at d0
  have hps : ((L.length : Nat) : Int) ≤ 1000000 := hlen
  have HPLN := Lib.hid hpl
  clear hr hcl hla hok hxe hhe hx hs2 hs3
  obtain ⟨i0, hi, hz0, hz1, hz2⟩ := info_parts infoInt
  have hn0 : decide ((n : Int) < 0) = false := decide_eq_false (by omega)
  have hn1 : decide ((L.length : Int) ≤ n) = false := decide_eq_false (by omega)
  have hn2 : decide (L.length ≤ n) = false := decide_eq_false (by omega)
  clear hpl hnp
  go_enter Try.func17, Try.ntmps17
  go_wp2_with fail
  clear d0
  go_loopw [6, 7] (fun v i wr => KRel w x L v i wr) (fun _ i _ => x.ts.length - (intOf i).toNat)
  case atStart => exact ⟨0, rfl, by omega, World.ownsRow_nil _ _ _ _, Below.refl _ _⟩
  case round =>
    obtain ⟨k, rfl, hk, hrow, hb2⟩ := hrel
    have HB2 := Lib.hid hb2
    have HROW := Lib.hid hrow
    have HR3 := Lib.hid (HRB.out.below hb2)
    obtain ⟨k0, k1, k2, k3, k4⟩ := HCL.out.below hb2 hgl
    have d0 := one_cell HR3.out.box
    rw [HPLN.out] at d0
    clear hrow hb2
    by_cases hlt : k < x.ts.length
    · obtain ⟨b, off, hao, hbB, hd, hc, hi2⟩ := (Tm.In.below (HB2.out.mono hBw) _ _ HLA.out).kid k hlt
      have HMEM := Lib.hid (HKID.out _ (List.getElem_mem hlt))
      have HSN := Lib.hid (numV_snoc (L := L) hlt)
      have HFD := RFind_any HR3.out x.ts[k] hd hi2 HLEN.out HOK.out
      rw [if_pos HMEM.out, decide_eq_true HMEM.out] at HFD
      have HFD := Lib.hid HFD
      obtain ⟨y0, y1, y2, y3, y4⟩ := hc
      obtain ⟨m, hm⟩ : ∃ m, m = num L x.ts[k] := ⟨_, rfl⟩
      rw [← hm] at HFD HSN
      rw [hao] at k4
      have HLT := Lib.hid hlt
      clear hi2 HMEM hm hao
      generalize x.ts[k] = y at y0 y1 y2 y3 y4 HFD
      unfold Tm.val Tm.vals at HFD
      obtain ⟨ao6, cp6, hu6⟩ := ownRow_slice HROW.out
      subst hu6
      go_wp2_with fail
      refine HFD.out.mono ?_
      rintro e w3 ⟨rfl, b3⟩
      have HB3 := Lib.hid (HB2.out.trans (b3.mono HB2.out.size))
      have HROW3 := Lib.hid (own_keepR HROW.out b3)
      have hq1 : Hid (k + 1 ≤ maxLen) := Lib.hid (by unfold maxLen; omega)
      have hq2 : Hid ((k + 1) * 8 ≤ 140737488355328) := Lib.hid (by omega)
      clear b3 HFD y0 y1 y2 y3 y4 k0 k1 k2 k3 k4 d0
      go_wp2_with (at_builtin; refine wpList_append_lies _ rfl _ _ _ rfl w.heap.size 3 i0 _ 1 8 Try.underlying23 hi hz0 hz1 hz2 rfl (by decide) _ k _ rfl (HROW3.out.alloc _) ⟨w3.heap.size, 0, none⟩ 1 1 [.int .i64 m] rfl rfl (World.news_of_block (cs := #[.int .i64 m]) (t := 3) (fr := (0, 0)) (World.alloc_heap_new w3 _)) (by simp [Value.oneCell']) Nat.one_pos hq1.out hq2.out (by rw [World.size_alloc]; have := HB3.out.size; omega) (w3.heap.size + 1) (World.size_alloc _ _) ?_; intro g1 cap1 w6 hown6 hg6 hat6 hlt6)
      rw [← HSN.out] at hown6
      have HNX : Hid (KRel w x L (.slice (some ⟨g1, 0, none⟩) (k + 1) cap1) (.int .i64 ((k + 1 : Nat) : Int)) w6) := Lib.hid ⟨k + 1, rfl, HLT.out, hown6, by
        have hs3 := HB3.out.size
        have hs6 := hg6.size
        rw [World.size_alloc] at hs6
        refine Below.trans (Below.trans HB3.out ((below_one w3 _).mono hs3)) ⟨hg6.os, hg6.tape, hg6.output, hg6.size, fun q hq => hg6.block q (by rw [World.size_alloc]; omega) (fun e => by have := (HROW3.out.lt q e.symm).1; omega)⟩⟩
      have hwk : IntKind.i64.wrap ((k : Int) + 1) = ((k + 1 : Nat) : Int) := by rw [IntWalk.i64_in _ (by omega)]; omega
      clear hown6 hg6 hat6 hlt6
      go_wp2_with fail
      go_roundw
      case rel => exact HNX.out
      case measure => simp [intOf]; omega
    · have hke : k = x.ts.length := by omega
      subst hke
      have hrow := HROW.out
      rw [List.take_length] at hrow
      obtain ⟨ao', cp', hu, hir, hlow⟩ := irow_of_own rfl hrow
      have HP : Hid (KidsPost L x w (.returned (.tuple #[.slice ao' x.ts.length cp', .int .i64 0])) wr) := Lib.hid ⟨ao', cp', rfl, hir, hlow, HB2.out⟩
      subst hu
      clear hrow hir hlow
      go_wp2_with fail
      exact bodyPost_ret (v := .tuple #[.slice ao' x.ts.length cp', .int .i64 0]) (by simp [results, Try.results17, go_sem]) rfl HP.out
end Go.Proofs.Ytjicdmohnfcflaa

