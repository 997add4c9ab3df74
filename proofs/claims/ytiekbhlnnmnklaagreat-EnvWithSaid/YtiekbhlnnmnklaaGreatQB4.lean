/-
  env.termsOf: the terms that an info has, in a row of the call's own.
-/
import Derived.Test.YtiekbhlnnmnklaaGreatQB3
import Derived.Test.YtiekbhlnnmnklaaGreatQB2
namespace Go.Proofs.YtiekbhlnnmnklaaGreat
open Go.RowKit Go.Shelf Lvl Trm Env

namespace Env
theorem vals_one5 (y : Tm) (hy : Hd) : ∀ q ∈ (y.vals hy).toList, q.oneCell' = true := fun q hq => by
  simp [Tm.vals] at hq
  rcases hq with rfl | rfl | rfl | rfl | rfl <;> rfl
/-- Terms in a row from block b0 on, each below block B. -/
structure RowB (B b0 : Nat) (w : World) (ao : Option Addr) (L : List Tm) : Prop where
  place : ∀ k (hk : k < L.length), ∃ b off hd, ao = some ⟨b, off, none⟩ ∧ b0 ≤ b ∧ b < w.heap.size ∧ TCells w b (off + k * 5) L[k] hd ∧ L[k].In B w hd
theorem RowB.rowIn {B b0 : Nat} {w : World} {ao : Option Addr} {L : List Tm} (h : RowB B b0 w ao L) (hB : B ≤ w.heap.size) : RowIn w.heap.size w ao 0 L := RowIn.mk fun k hk => by
  obtain ⟨b, off, hd, h1, _, h3, h4, h5⟩ := h.place k hk
  exact ⟨b, off, h1, h3, hd, by rw [Nat.zero_add]; exact h4, Tm.In.mono hB _ _ h5⟩
theorem RowB.ran {P : Nat → Prop} {B b0 : Nat} {w w' : World} {ao : Option Addr} {L : List Tm} (h : RowB B b0 w ao L) (hr : RanS P w w') (hP : ∀ q, P q → B ≤ q ∧ q < b0) (hB : B ≤ w.heap.size) : RowB B b0 w' ao L := ⟨fun k hk => by
  obtain ⟨b, off, hd, h1, h2, h3, h4, h5⟩ := h.place k hk
  have hnb : ¬ P b := fun hp => by have := hP b hp; omega
  have key : ∀ o, w'.cell? ⟨b, o, none⟩ = w.cell? ⟨b, o, none⟩ := fun o => hr.cell (p := ⟨b, o, none⟩) h3 hnb
  exact ⟨b, off, hd, h1, h2, Nat.lt_of_lt_of_le h3 hr.size, ⟨(key _).trans h4.c0, (key _).trans h4.c1, (key _).trans h4.c2, (key _).trans h4.c3, (key _).trans h4.c4⟩, Tm.In.below (hr.below (fun q hq => (hP q hq).1) hB) _ _ h5⟩⟩
/-- A row of the call's own, of terms that were there when it began. -/
def TRow (B b0 : Nat) (w : World) (L : List Tm) (n : Nat) (v : Value) : Prop := ∃ ps : List (Tm × Hd), n = ps.length ∧ w.ownsRow b0 27 5 v n (flat ps) ∧ ps.map (·.1) = L ∧ ∀ p ∈ ps, p.1.In B w p.2
theorem TRow.len {B b0 : Nat} {w : World} {L : List Tm} {n : Nat} {v : Value} (h : TRow B b0 w L n v) : n = L.length := by
  obtain ⟨ps, h1, _, h3, _⟩ := h
  rw [h1, ← h3, List.length_map]
theorem TRow.rowB {B b0 : Nat} {w : World} {L : List Tm} {n : Nat} {v : Value} (h : TRow B b0 w L n v) : ∃ ao cp, v = .slice ao L.length cp ∧ RowB B b0 w ao L := by
  obtain ⟨ps, rfl, h2, h3, h4⟩ := h
  have hl : ps.length = L.length := by rw [← h3, List.length_map]
  rcases h2.2 with ⟨hv, h0⟩ | ⟨g, cap, cur, rfl, hb, hg, rest⟩
  · have hL : L = [] := List.length_eq_zero_iff.1 (by omega)
    exact ⟨none, 0, by rw [hv, hL]; rfl, ⟨fun k hk => by rw [hL] at hk; simp at hk⟩⟩
  · refine ⟨_, cap, by rw [hl], ⟨fun k hk => ?_⟩⟩
    have hk2 : k < ps.length := by omega
    have hgl : g < w.heap.size := (Array.getElem?_eq_some_iff.1 hg).1
    have key : ∀ j u, j < 5 → ((ps[k].1.vals ps[k].2).toList)[j]? = some u → w.cell? ⟨g, 0 + k * 5 + j, none⟩ = some u := fun j u hj hu => by
      have h1 := h2.cells (g := g) rfl (k * 5 + j) u (by rw [flat_at ps k hk2 j hj]; simpa using hu)
      rw [Addr.add_mid] at h1
      rw [show 0 + k * 5 + j = 0 + (k * 5 + j) by omega]
      exact h1
    have he : ps[k].1 = L[k] := by
      have h5 : (ps.map (·.1))[k]'(by rw [List.length_map]; exact hk2) = ps[k].1 := List.getElem_map _
      rw [← h5]
      simp only [h3]
    refine ⟨g, 0, ps[k].2, rfl, hb, hgl, ?_, he ▸ h4 _ (List.getElem_mem hk2)⟩
    rw [← he]
    exact ⟨key 0 _ (by omega) rfl, key 1 _ (by omega) rfl, key 2 _ (by omega) rfl, key 3 _ (by omega) rfl, key 4 _ (by omega) rfl⟩
theorem TRow.grow {B b0 : Nat} {w w3 w6 : World} {L : List Tm} {n g1 cap1 : Nat} {v : Value} {o : Obj} {ps : List (Tm × Hd)} (hbb : B ≤ b0) (hn : n = ps.length) (hrow : w.ownsRow b0 27 5 v n (flat ps)) (hmap : ps.map (·.1) = L) (hlie : ∀ p ∈ ps, p.1.In B w p.2) {t : Tm} {h : Hd} (hin : t.In B w h) (h3 : Below w.heap.size w w3)
    (hown : w6.ownsRow b0 27 5 (.slice (some ⟨g1, 0, none⟩) (n + 1) cap1) (n + 1) (flat ps ++ (t.vals h).toList)) (hg : (w3.alloc o).grownBy w6 v.ownBlock) (hB : b0 ≤ w.heap.size) : TRow B b0 w6 (L ++ [t]) (n + 1) (.slice (some ⟨g1, 0, none⟩) (n + 1) cap1) := by
  have hbl := (below_grown (Below.refl b0 w) h3 hg hrow hB).mono hbb
  refine ⟨ps ++ [(t, h)], by simp [hn], ?_, by simp [hmap], fun p hp => ?_⟩
  · rw [show flat (ps ++ [(t, h)]) = flat ps ++ (t.vals h).toList by simp [flat]]
    exact hown
  · rcases List.mem_append.1 hp with hp | hp
    · exact Tm.In.below hbl _ _ (hlie p hp)
    · simp at hp
      subst hp
      exact Tm.In.below hbl _ _ hin
theorem TRow.one {B : Nat} {w : World} (t : Tm) (h : Hd) (hin : t.In B w h) (hB : B ≤ w.heap.size) : TRow B w.heap.size (w.alloc (.cells (t.vals h) 27)) [t] 1 (.slice (some ⟨w.heap.size, 0, none⟩) 1 1) :=
  ⟨[(t, h)], rfl, by rw [show flat [(t, h)] = (t.vals h).toList by simp [flat]]; exact World.ownsRow_lit w (t.vals h) 1 (Nat.le_refl _) (by decide) rfl, rfl, fun p hp => by simp at hp; subst hp; exact Tm.In.below ((below_one w _).mono hB) _ _ hin⟩
def TsRel (B : Nat) (w : World) (x : Inf) (pre : List Tm) (v i : Value) (wr : World) : Prop :=
  ∃ k n : Nat, i = .int .i64 k ∧ k ≤ x.rules.length ∧ TRow B w.heap.size wr (pre ++ (x.rules.take k).map Rl.body) n v ∧ Below w.heap.size w wr
/-- What termsOf answers. -/
def TermsPost (B : Nat) (x : Inf) (w : World) (e : Ending) (w' : World) : Prop := ∃ ao cp, e = .returned (.slice ao x.terms.length cp) ∧ RowB B w.heap.size w' ao x.terms ∧ Below w.heap.size w w'
theorem ts_step (x : Inf) (pre : List Tm) {k : Nat} (hk : k < x.rules.length) : (pre ++ (x.rules.take k).map Rl.body) ++ [x.rules[k].body] = pre ++ (x.rules.take (k + 1)).map Rl.body := by
  rw [List.append_assoc, List.take_succ_eq_append_getElem hk, List.map_append]
  rfl
theorem t_cells (t : Tm) (h : Hd) {w : World} {b o : Nat} (c : TCells w b o t h) : w.cell? ⟨b, o, none⟩ = some (.int .u8 t.k) ∧ w.cell? ⟨b, o + 1, none⟩ = some (.int .i64 t.n) ∧ w.cell? ⟨b, o + 2, none⟩ = some (.string t.s) ∧ w.cell? ⟨b, o + 3, none⟩ = some (.slice h.lo t.ls.length h.lc) ∧ w.cell? ⟨b, o + 4, none⟩ = some (.slice h.to t.ts.length h.tc) := ⟨c.c0, c.c1, c.c2, c.c3, c.c4⟩
end Env

set_option maxRecDepth 100000 in
set_option maxHeartbeats 8000000 in
theorem termsOf_any {B : Nat} {w : World} {b : Nat} {x : Inf} {h : IHd} (hb : IBox w b x h) (hin : x.In B w h) (hB : B ≤ w.heap.size) (hn : x.rules.length ≤ 1000) : Calls Tryz.prog 152 #[.pointer (some ⟨b, 0, none⟩)] w (TermsPost B x w) := by
  have HB := Lib.hid hb
  have HIN := Lib.hid hin
  have HN := Lib.hid hn
  have HBB := Lib.hid hB
  have HKR := Lib.hid infoRl
  obtain ⟨i0, hi, hz0, hz1, hz2⟩ := info_parts infoT
  obtain ⟨c3, c4, c5, c6, c7⟩ : w.cell? ⟨b, 3, none⟩ = some (.int .u8 x.ty.k) ∧ w.cell? ⟨b, 4, none⟩ = some (.int .i64 x.ty.n) ∧ w.cell? ⟨b, 5, none⟩ = some (.string x.ty.s) ∧ w.cell? ⟨b, 6, none⟩ = some (.slice h.ty.lo x.ty.ls.length h.ty.lc) ∧ w.cell? ⟨b, 7, none⟩ = some (.slice h.ty.to x.ty.ts.length h.ty.tc) := t_cells x.ty h.ty hb.ty
  obtain ⟨W1, hW1⟩ : ∃ W1, W1 = w.alloc (.cells (x.ty.vals h.ty) 27) := ⟨_, rfl⟩
  have B1 := Lib.hid (show Below w.heap.size w W1 from hW1 ▸ below_one _ _)
  have HT1 := Lib.hid (show TRow B w.heap.size W1 [x.ty] 1 (.slice (some ⟨w.heap.size, 0, none⟩) 1 1) from hW1 ▸ TRow.one x.ty h.ty hin.ty hB)
  have HHV := Lib.hid (hasValue_any (hb.keep B1.out))
  have HPO : Hid (∀ (ao : Option Addr) (cp : Nat) (w' : World) (L : List Tm), L = x.terms → RowB B w.heap.size w' ao L → Below w.heap.size w w' → TermsPost B x w (.returned (.slice ao L.length cp)) w') := Lib.hid fun ao cp w' L hL hr hbl => by subst hL; exact ⟨ao, cp, rfl, hr, hbl⟩
  have HTE : Hid (∀ v : Bool, v = x.hv → [x.ty] ++ (if v = true then [x.va] else []) ++ x.rules.map Rl.body = x.terms) := Lib.hid fun v hv => by rw [hv]; rfl
  obtain ⟨V, hV⟩ : ∃ V, V = x.hv := ⟨_, rfl⟩
  rw [← hV] at HHV
  have HV := Lib.hid hV
  unfold Tm.vals at hW1
  clear hb hin hn hB hV
  go_enter Tryz.func152, Tryz.ntmps152
  go_upto_region 2 with fail
  rw [← hW1]
  clear hW1 c3 c4 c5 c6 c7
  go_wp2_with fail
  refine HHV.out.mono ?_
  rintro e w' ⟨rfl, rfl⟩
  clear HHV
  have hs1 := B1.out.size
  cases V
  · have B3 := B1
    have HT3 := HT1
    obtain ⟨W3, hW3⟩ : ∃ x : World, x = W1 := ⟨_, rfl⟩
    subst hW3
    have c22 : W3.cell? ⟨b, 22, none⟩ = some (.slice h.ro x.rules.length h.rc) := (HB.out.keep B3.out).cell 22
    go_wp2_with fail
    clear c22
    go_loopw [3, 25] (fun v i wr => TsRel B w x ([x.ty] ++ (if false = true then [x.va] else [])) v i wr) (fun _ i _ => x.rules.length - (intOf i).toNat)
    case atStart => exact ⟨0, _, rfl, by omega, by rw [List.take_zero, List.map_nil, List.append_nil]; exact HT3.out, B3.out⟩
    case round =>
      obtain ⟨k, n, rfl, hk, hrow, hbel⟩ := hrel
      have HNL := Lib.hid (hrow.len)
      obtain ⟨ps, hnp, hown, hmap, hlie⟩ := id hrow
      have HTR := Lib.hid hrow
      have HOWN := Lib.hid hown
      have HMAP := Lib.hid hmap
      have HLIE := Lib.hid hlie
      have HNP := Lib.hid hnp
      have HBEL := Lib.hid hbel
      clear hrow hown hmap hlie hnp hbel HT3
      by_cases hlt : k < x.rules.length
      · obtain ⟨b2, off, hd, hro, hb2, hrg, hbin⟩ := (HIN.out.rules.below (HBEL.out.mono HBB.out)).place k hlt
        have HST := Lib.hid (ts_step x ([x.ty] ++ (if false = true then [x.va] else [])) hlt)
        obtain ⟨r, hre⟩ : ∃ r, r = x.rules[k] := ⟨_, rfl⟩
        rw [← hre] at hrg HST hbin
        have HLT := Lib.hid hlt
        have HRG := Lib.hid hrg
        have HBI := Lib.hid hbin
        obtain ⟨W2, hW2⟩ : ∃ W2, W2 = wr.alloc (.cells (r.vals hd).toArray 80) := ⟨_, rfl⟩
        have B2 := Lib.hid (show Below wr.heap.size wr W2 from hW2 ▸ below_one _ _)
        have HX2 := Lib.hid (show W2.heap[wr.heap.size]? = some (.cells (r.vals hd).toArray 80) from hW2 ▸ World.alloc_heap_new _ _)
        have HOWN2 := Lib.hid (row_keep HOWN.out B2.out)
        have hz9 : W2.heap.size = wr.heap.size + 1 := by rw [hW2]; simp
        have HZ2 := Lib.hid hz9
        obtain ⟨ao6, cp6, hu6⟩ := row_slice HOWN.out
        subst hu6
        rw [hro]
        clear hre hrg hz9 hbin
        go_upto_region 7 with (first
          | (refine wpList_load_mid rfl 80 (.tmp 27) rfl b2 (off + k * 7) rfl (r.vals hd) _ HRG.out Tryz.underlying80 rfl HKR.out ?_)
          | (refine wpList_store_row rfl 80 (.tmp 5) (.tmp 28) rfl wr.heap.size (r.vals hd).toArray rfl rfl 80 Rl.zero (World.alloc_heap_new wr _) HKR.out rfl (by kernel_rfl) ?_))
        rw [World.setRow_alloc_new, ← hW2]
        clear hW2
        obtain ⟨d2, d3, d4, d5, d6⟩ : W2.cell? ⟨wr.heap.size, 2, none⟩ = some (.int .u8 r.body.k) ∧ W2.cell? ⟨wr.heap.size, 3, none⟩ = some (.int .i64 r.body.n) ∧ W2.cell? ⟨wr.heap.size, 4, none⟩ = some (.string r.body.s) ∧ W2.cell? ⟨wr.heap.size, 5, none⟩ = some (.slice hd.lo r.body.ls.length hd.lc) ∧ W2.cell? ⟨wr.heap.size, 6, none⟩ = some (.slice hd.to r.body.ts.length hd.tc) := t_cells r.body hd (r_box HX2.out).2.2
        have hnn : n ≤ 2000 := by have h1 := HNL.out; simp at h1; have := HN.out; omega
        have hq1 : Hid (n + 1 ≤ maxLen) := Lib.hid (by unfold maxLen; omega)
        have hq2 : Hid ((n + 1) * 80 ≤ 140737488355328) := Lib.hid (by omega)
        clear hnn
        go_wp2_with (at_builtin; refine wpList_append_lies _ rfl _ _ _ rfl w.heap.size 27 i0 _ 5 80 Tryz.underlying25 hi hz0 hz1 hz2 rfl (by decide) _ n _ rfl (HOWN2.out.alloc _) ⟨W2.heap.size, 0, none⟩ 1 1 (r.body.vals hd).toList rfl rfl (World.news_of_block (cs := r.body.vals hd) (t := 27) (fr := (0, 0)) (World.alloc_heap_new W2 _)) (vals_one5 r.body hd) Nat.one_pos hq1.out hq2.out (by rw [World.size_alloc]; have := HBEL.out.size; have := HZ2.out; omega) (W2.heap.size + 1) (World.size_alloc _ _) ?_; intro g1 cap1 w6 hown6 hg6 hat6 hlt6)
        have htr6 := TRow.grow HBB.out HNP.out HOWN.out HMAP.out HLIE.out HBI.out B2.out hown6 hg6 HBEL.out.size
        rw [HST.out] at htr6
        have HNX : Hid (∀ z : Int, z = (k : Int) + 1 → TsRel B w x ([x.ty] ++ (if false = true then [x.va] else [])) (.slice (some ⟨g1, 0, none⟩) (n + 1) cap1) (.int .i64 z) w6) := Lib.hid fun z hz => ⟨k + 1, n + 1, by rw [hz]; rfl, HLT.out, htr6, below_grown HBEL.out B2.out hg6 HOWN.out HBEL.out.size⟩
        have hwk : wrap64 ((k : Int) + 1) = (k : Int) + 1 := IntWalk.wrap64_in _ (by have := HN.out; have := HLT.out; omega)
        clear hown6 hg6 hat6 hlt6 htr6 d2 d3 d4 d5 d6
        go_wp2_with fail
        go_roundw
        case rel => exact HNX.out _ hwk
        case measure => exact less_step hwk HLT.out
      · have hke : k = x.rules.length := by omega
        subst hke
        have htr := HTR.out
        rw [List.take_length] at htr
        obtain ⟨ao', cp', hu, hri⟩ := htr.rowB
        have hpp := HPO.out ao' cp' wr _ (HTE.out _ HV.out) hri HBEL.out
        obtain ⟨m, hm⟩ : ∃ m : Nat, m = (([x.ty] ++ (if false = true then [x.va] else [])) ++ x.rules.map Rl.body).length := ⟨_, rfl⟩
        rw [← hm] at hu hpp
        subst hu
        have HPP := Lib.hid hpp
        clear htr hri hm hpp
        go_wp2_with fail
        go_ret
        exact HPP.out
  · obtain ⟨c8, c9, c10, c11, c12⟩ : W1.cell? ⟨b, 8, none⟩ = some (.int .u8 x.va.k) ∧ W1.cell? ⟨b, 9, none⟩ = some (.int .i64 x.va.n) ∧ W1.cell? ⟨b, 10, none⟩ = some (.string x.va.s) ∧ W1.cell? ⟨b, 11, none⟩ = some (.slice h.va.lo x.va.ls.length h.va.lc) ∧ W1.cell? ⟨b, 12, none⟩ = some (.slice h.va.to x.va.ts.length h.va.tc) := t_cells x.va h.va (HB.out.keep B1.out).va
    have hq1 : Hid (1 + 1 ≤ maxLen) := Lib.hid (by unfold maxLen; omega)
    have hq2 : Hid ((1 + 1) * 80 ≤ 140737488355328) := Lib.hid (by omega)
    obtain ⟨ps0, hn0, hown0, hmap0, hlie0⟩ := id HT1.out
    have HOWN0 := Lib.hid hown0
    have HN0 := Lib.hid hn0
    have HMAP0 := Lib.hid hmap0
    have HLIE0 := Lib.hid hlie0
    clear hn0 hmap0 hlie0 hown0
    go_upto_region 4 with (at_builtin; refine wpList_append_lies _ rfl _ _ _ rfl w.heap.size 27 i0 _ 5 80 Tryz.underlying25 hi hz0 hz1 hz2 rfl (by decide) _ 1 _ rfl (HOWN0.out.alloc _) ⟨W1.heap.size, 0, none⟩ 1 1 (x.va.vals h.va).toList rfl rfl (World.news_of_block (cs := x.va.vals h.va) (t := 27) (fr := (0, 0)) (World.alloc_heap_new W1 _)) (vals_one5 x.va h.va) Nat.one_pos hq1.out hq2.out (by rw [World.size_alloc]; have := B1.out.size; omega) (W1.heap.size + 1) (World.size_alloc _ _) ?_; intro g3 cap3 W3 hown3 hg3 hat3 hlt3)
    have HT3 := Lib.hid (TRow.grow HBB.out HN0.out HOWN0.out HMAP0.out HLIE0.out (Tm.In.below (B1.out.mono HBB.out) _ _ HIN.out.va) (Below.refl _ _) hown3 hg3 B1.out.size)
    have B3 := Lib.hid (below_grown B1.out (Below.refl _ _) hg3 HOWN0.out B1.out.size)
    clear hown3 hg3 hat3 hlt3 c8 c9 c10 c11 c12 HOWN0 HN0 HMAP0 HLIE0
    have c22 : W3.cell? ⟨b, 22, none⟩ = some (.slice h.ro x.rules.length h.rc) := (HB.out.keep B3.out).cell 22
    go_wp2_with fail
    clear c22
    go_loopw [3, 25] (fun v i wr => TsRel B w x ([x.ty] ++ (if true = true then [x.va] else [])) v i wr) (fun _ i _ => x.rules.length - (intOf i).toNat)
    case atStart => exact ⟨0, _, rfl, by omega, by rw [List.take_zero, List.map_nil, List.append_nil]; exact HT3.out, B3.out⟩
    case round =>
      obtain ⟨k, n, rfl, hk, hrow, hbel⟩ := hrel
      have HNL := Lib.hid (hrow.len)
      obtain ⟨ps, hnp, hown, hmap, hlie⟩ := id hrow
      have HTR := Lib.hid hrow
      have HOWN := Lib.hid hown
      have HMAP := Lib.hid hmap
      have HLIE := Lib.hid hlie
      have HNP := Lib.hid hnp
      have HBEL := Lib.hid hbel
      clear hrow hown hmap hlie hnp hbel HT3
      by_cases hlt : k < x.rules.length
      · obtain ⟨b2, off, hd, hro, hb2, hrg, hbin⟩ := (HIN.out.rules.below (HBEL.out.mono HBB.out)).place k hlt
        have HST := Lib.hid (ts_step x ([x.ty] ++ (if true = true then [x.va] else [])) hlt)
        obtain ⟨r, hre⟩ : ∃ r, r = x.rules[k] := ⟨_, rfl⟩
        rw [← hre] at hrg HST hbin
        have HLT := Lib.hid hlt
        have HRG := Lib.hid hrg
        have HBI := Lib.hid hbin
        obtain ⟨W2, hW2⟩ : ∃ W2, W2 = wr.alloc (.cells (r.vals hd).toArray 80) := ⟨_, rfl⟩
        have B2 := Lib.hid (show Below wr.heap.size wr W2 from hW2 ▸ below_one _ _)
        have HX2 := Lib.hid (show W2.heap[wr.heap.size]? = some (.cells (r.vals hd).toArray 80) from hW2 ▸ World.alloc_heap_new _ _)
        have HOWN2 := Lib.hid (row_keep HOWN.out B2.out)
        have hz9 : W2.heap.size = wr.heap.size + 1 := by rw [hW2]; simp
        have HZ2 := Lib.hid hz9
        obtain ⟨ao6, cp6, hu6⟩ := row_slice HOWN.out
        subst hu6
        rw [hro]
        clear hre hrg hz9 hbin
        go_upto_region 7 with (first
          | (refine wpList_load_mid rfl 80 (.tmp 27) rfl b2 (off + k * 7) rfl (r.vals hd) _ HRG.out Tryz.underlying80 rfl HKR.out ?_)
          | (refine wpList_store_row rfl 80 (.tmp 5) (.tmp 28) rfl wr.heap.size (r.vals hd).toArray rfl rfl 80 Rl.zero (World.alloc_heap_new wr _) HKR.out rfl (by kernel_rfl) ?_))
        rw [World.setRow_alloc_new, ← hW2]
        clear hW2
        obtain ⟨d2, d3, d4, d5, d6⟩ : W2.cell? ⟨wr.heap.size, 2, none⟩ = some (.int .u8 r.body.k) ∧ W2.cell? ⟨wr.heap.size, 3, none⟩ = some (.int .i64 r.body.n) ∧ W2.cell? ⟨wr.heap.size, 4, none⟩ = some (.string r.body.s) ∧ W2.cell? ⟨wr.heap.size, 5, none⟩ = some (.slice hd.lo r.body.ls.length hd.lc) ∧ W2.cell? ⟨wr.heap.size, 6, none⟩ = some (.slice hd.to r.body.ts.length hd.tc) := t_cells r.body hd (r_box HX2.out).2.2
        have hnn : n ≤ 2000 := by have h1 := HNL.out; simp at h1; have := HN.out; omega
        have hq1 : Hid (n + 1 ≤ maxLen) := Lib.hid (by unfold maxLen; omega)
        have hq2 : Hid ((n + 1) * 80 ≤ 140737488355328) := Lib.hid (by omega)
        clear hnn
        go_wp2_with (at_builtin; refine wpList_append_lies _ rfl _ _ _ rfl w.heap.size 27 i0 _ 5 80 Tryz.underlying25 hi hz0 hz1 hz2 rfl (by decide) _ n _ rfl (HOWN2.out.alloc _) ⟨W2.heap.size, 0, none⟩ 1 1 (r.body.vals hd).toList rfl rfl (World.news_of_block (cs := r.body.vals hd) (t := 27) (fr := (0, 0)) (World.alloc_heap_new W2 _)) (vals_one5 r.body hd) Nat.one_pos hq1.out hq2.out (by rw [World.size_alloc]; have := HBEL.out.size; have := HZ2.out; omega) (W2.heap.size + 1) (World.size_alloc _ _) ?_; intro g1 cap1 w6 hown6 hg6 hat6 hlt6)
        have htr6 := TRow.grow HBB.out HNP.out HOWN.out HMAP.out HLIE.out HBI.out B2.out hown6 hg6 HBEL.out.size
        rw [HST.out] at htr6
        have HNX : Hid (∀ z : Int, z = (k : Int) + 1 → TsRel B w x ([x.ty] ++ (if true = true then [x.va] else [])) (.slice (some ⟨g1, 0, none⟩) (n + 1) cap1) (.int .i64 z) w6) := Lib.hid fun z hz => ⟨k + 1, n + 1, by rw [hz]; rfl, HLT.out, htr6, below_grown HBEL.out B2.out hg6 HOWN.out HBEL.out.size⟩
        have hwk : wrap64 ((k : Int) + 1) = (k : Int) + 1 := IntWalk.wrap64_in _ (by have := HN.out; have := HLT.out; omega)
        clear hown6 hg6 hat6 hlt6 htr6 d2 d3 d4 d5 d6
        go_wp2_with fail
        go_roundw
        case rel => exact HNX.out _ hwk
        case measure => exact less_step hwk HLT.out
      · have hke : k = x.rules.length := by omega
        subst hke
        have htr := HTR.out
        rw [List.take_length] at htr
        obtain ⟨ao', cp', hu, hri⟩ := htr.rowB
        have hpp := HPO.out ao' cp' wr _ (HTE.out _ HV.out) hri HBEL.out
        obtain ⟨m, hm⟩ : ∃ m : Nat, m = (([x.ty] ++ (if true = true then [x.va] else [])) ++ x.rules.map Rl.body).length := ⟨_, rfl⟩
        rw [← hm] at hu hpp
        subst hu
        have HPP := Lib.hid hpp
        clear htr hri hm hpp
        go_wp2_with fail
        go_ret
        exact HPP.out
end Go.Proofs.YtiekbhlnnmnklaaGreat


namespace Go.Proofs.YtiekbhlnnmnklaaGreat
open Go.RowKit Go.Shelf Lvl Trm

namespace Trm
theorem row_pairs {B : Nat} {w : World} {b off : Nat} : ∀ {ts : List Tm} {i : Nat}, RowIn B w (some ⟨b, off, none⟩) i ts → ∃ ps : List (Tm × Hd), ps.map (·.1) = ts ∧ ∀ k (hk : k < ps.length), TCells w b (off + (i + k) * 5) ps[k].1 ps[k].2 ∧ ps[k].1.In B w ps[k].2
  | [], _, _ => ⟨[], rfl, fun k hk => by simp at hk⟩
  | t :: r, i, g => by
    rw [RowIn] at g
    obtain ⟨⟨b', off', h, hao, hb, hc, hi⟩, g2⟩ := g
    cases hao
    obtain ⟨ps, hps, hall⟩ := row_pairs g2
    refine ⟨(t, h) :: ps, by simp [hps], fun k hk => ?_⟩
    match k, hk with
    | 0, _ => exact ⟨hc, hi⟩
    | k + 1, hk =>
      have := hall k (by simpa using hk)
      rw [show i + 1 + k = i + (k + 1) by omega] at this
      exact this
theorem take_more {ps : List (Tm × Hd)} {k : Nat} (hk : k < ps.length) : (ps.take (k + 1)).map (·.1) = (ps.take k).map (·.1) ++ [ps[k].1] := by
  rw [List.take_succ_eq_append_getElem hk, List.map_append]; rfl
theorem take_set {ps : List (Tm × Hd)} {k : Nat} (hk : k < ps.length) (p : Tm × Hd) : ((ps.set k p).take (k + 1)).map (·.1) = (ps.take k).map (·.1) ++ [p.1] := by
  rw [take_more (by simpa using hk), List.getElem_set_self, List.take_set_of_le (Nat.le_refl k)]
theorem drop_more {ps qs : List (Tm × Hd)} {k : Nat} (h : ps.drop k = qs.drop k) : ps.drop (k + 1) = qs.drop (k + 1) := by
  have h1 := congrArg (List.drop 1) h
  simpa [List.drop_drop] using h1
theorem drop_set {ps : List (Tm × Hd)} {k : Nat} (p : Tm × Hd) : (ps.set k p).drop (k + 1) = ps.drop (k + 1) := by
  rw [List.drop_set_of_lt (by omega)]
theorem drop_same {ps qs : List (Tm × Hd)} {k : Nat} (h : ps.drop k = qs.drop k) (h1 : k < ps.length) (h2 : k < qs.length) : ps[k] = qs[k] := by
  rw [List.drop_eq_getElem_cons h1, List.drop_eq_getElem_cons h2] at h
  injection h

/-- Behind some rounds through the terms of a node. -/
def ThrRel {σ : Type} (lf : Lf σ) (B : Nat) (P : Nat → Prop) (Inv : σ → World → Prop) (Good : σ → Prop) (w : World) (t : Tm) (u : Int) (ps0 : List (Tm × Hd)) (R : σ × Int × Option Tm) (vi vu vl : Value) (wr : World) : Prop :=
  ∃ (k : Nat) (st : σ) (u' : Int) (c : Bool) (ps : List (Tm × Hd)), vi = .int .i64 k ∧ vu = .int .i64 u' ∧ k ≤ t.ts.length ∧ (u' = u ∨ (u' = u + 1 ∧ k = t.ts.length)) ∧ ps.length = t.ts.length ∧ ps.drop k = ps0.drop k ∧
    fin t.k t.n t.s c ((ps.take k).map (·.1)) (thrL lf t.k (t.ts.drop k) st u') = R ∧ Good st ∧ Inv st wr ∧ RanS P w wr ∧ wr.heap[w.heap.size]? = some (.cells #[.int .u8 0, .int .i64 0, .string no, .slice none 0 0, .slice none 0 0] 27) ∧
    ((c = false ∧ vl = .slice none 0 0 ∧ ps = ps0) ∨ (c = true ∧ ∃ L S cap, vl = .slice (some ⟨L, 0, none⟩) t.ts.length cap ∧ w.heap.size < L ∧ TBlock wr L S ps ∧ ∀ p ∈ ps, FirmS (fun q => B ≤ q ∧ (q ≤ w.heap.size ∨ q = L)) wr p.1 p.2))

/-- A row of terms that lie there whatever is written: a node of them does. -/
theorem firm_row {P Q : Nat → Prop} {w : World} {L S cap : Nat} {ps : List (Tm × Hd)} {k n : Int} {s : ByteArray} (htb : TBlock w L S ps) (hL : ¬ P L) (hpq : ∀ q, P q → Q q) (hf : ∀ p ∈ ps, FirmS Q w p.1 p.2)
    (hk0 : 0 ≤ k) (hk1 : k ≤ 255) (hn0 : -9223372036854775808 ≤ n) (hn1 : n ≤ 9223372036854775807) (hs : s.size ≤ 9223372036854775807) (hl : ps.length ≤ 1000000) :
    FirmS P w (.mk k n s [] (ps.map (·.1))) ⟨none, 0, some ⟨L, 0, none⟩, cap⟩ := fun w' hr => by
  have hsz := hr.size
  have hlt := htb.lt
  refine Tm.In_iff.2 ⟨⟨hk0, hk1, hn0, hn1, hs, by simp [Tm.ls], by simp [Tm.ts]; omega⟩, ⟨fun k hk => by simp [Tm.ls] at hk⟩, fun hn => by simp [Tm.ls] at hn, ?_⟩
  exact TBlock.row (htb.ranS hr hL) (by omega) (fun p hp => (hf p hp).less (fun q _ => hpq q) w' hr)
end Trm

set_option maxRecDepth 100000 in
set_option maxHeartbeats 1000000 in
theorem through_any {σ : Type} {B N C : Nat} {P : Nat → Prop} {f : FuncId} {lf : Lf σ} {Inv : σ → World → Prop} {Good : σ → Prop} (S : Leaf B N P C f lf Inv Good) (t : Tm) :
    ∀ (st : σ) (b o : Nat) (d u : Int) (w : World), Good st → Inv st w → OkMay t d → 0 ≤ u → u ≤ d → SAt B P w b o t → B ≤ w.heap.size → N ≤ w.heap.size → (∀ q, P q → q < w.heap.size) →
      Calls Tryz.prog 161 #[.pointer (some ⟨b, o, none⟩), .int .i64 u, fnv f C] w (ThrPost B P (t.thr lf st u) Inv w) := by
  induction t using Tm.ind with
  | h t ih =>
    intro st b o d u w hgood hinv hok hu0 hud hat hB hN hPw
    have HIH := Lib.hid ih
    have HS := Lib.hid S
    have HPW := Lib.hid hPw
    have hd1 := hok.node.2
    have hfew := (node_few hok.node.1).2
    have HOK := Lib.hid hok
    obtain ⟨hbP, hb, h, hc0, hin0⟩ := hat
    have HIN := Lib.hid hin0
    have HHD := Lib.hid hc0
    have HGD := Lib.hid hgood
    have HIV := Lib.hid hinv
    have hent := S.enter
    obtain ⟨R, hR⟩ : ∃ R, R = t.thr lf st u := ⟨_, rfl⟩
    rw [← hR]
    obtain ⟨c0, c1, c2, c3, c4⟩ := hc0
    have hAP : ¬ P w.heap.size := fun hp => by have := hPw _ hp; omega
    clear ih hin0 hgood hinv hok hPw
    by_cases hts : t.ts = []
    · rw [Tm.thr_leaf lf hts] at hR
      have hl0 : t.ts.length = 0 := by rw [hts]; rfl
      rw [hl0] at c4
      have HC := Lib.hid (fun (W : World) (hW : Below w.heap.size w W) => S.calls st t b o u W HGD.out (S.keep _ _ _ HIV.out (hW.mono hN)) HOK.out.node.1 hts hu0 (by omega) ⟨hbP, by have := hW.size; omega, h, HHD.out.below hW hb, Tm.In.below (hW.mono hB) _ _ HIN.out⟩ (by have := hW.size; omega) (by have := hW.size; omega) (fun q hq => by have := hW.size; have := HPW.out q hq; omega))
      rw [← hR] at HC
      clear hR hts hl0 S
      obtain ⟨R1, R2, R3⟩ := R
      delta ThrPost at HC ⊢
      dsimp only at HC ⊢
      generalize hy : R3.getD zeroT = y at HC ⊢
      clear hy
      go_enter Tryz.func161, Tryz.ntmps161
      go_wp2_with fail
      refine (HC.out _ (below_one _ _)).mono ?_
      rintro e w1 ⟨hy, rfl, fY, iY, rY⟩
      have hA := rY.keep (World.alloc_heap_new w (.cells #[.int .u8 0, .int .i64 0, .string no, .slice none 0 0, .slice none 0 0] 27)) hAP
      have hszA := rY.size
      obtain ⟨a0, a1, a2, a3, a4⟩ := five_cells hA
      obtain ⟨f0, f1, f2, f3, f4⟩ := five_free hA
      have HA := Lib.hid hA
      have HF := Lib.hid fY
      have HI := Lib.hid iY
      have HR := Lib.hid rY
      have hlt1 : w.heap.size < w1.heap.size := by simp at hszA; omega
      clear c0 c1 c2 c3 c4 fY iY rY hA hszA
      dsimp only [Tm.val, Tm.vals]
      go_wp2_with fail
      have h5 := putT_self HA.out (.int .u8 y.k) (.int .i64 y.n) (.string y.s) (.slice hy.lo y.ls.length hy.lc) (.slice hy.to y.ts.length hy.tc)
      have r5 := putT_ran w1 w.heap.size (.int .u8 y.k) (.int .i64 y.n) (.string y.s) (.slice hy.lo y.ls.length hy.lc) (.slice hy.to y.ts.length hy.tc)
      have s5 := RanS.put ((RanS.of_below (below_one w (.cells #[.int .u8 0, .int .i64 0, .string no, .slice none 0 0, .slice none 0 0] 27))).trans HR.out) (Nat.le_refl w.heap.size) (.int .u8 y.k) (.int .i64 y.n) (.string y.s) (.slice hy.lo y.ls.length hy.lc) (.slice hy.to y.ts.length hy.tc)
      unfold putT at h5 r5 s5
      generalize hW : ((((w1.setCell ⟨w.heap.size, 0, none⟩ (.int .u8 y.k)).setCell ⟨w.heap.size, 1, none⟩ (.int .i64 y.n)).setCell ⟨w.heap.size, 2, none⟩ (.string y.s)).setCell ⟨w.heap.size, 3, none⟩ (.slice hy.lo y.ls.length hy.lc)).setCell ⟨w.heap.size, 4, none⟩ (.slice hy.to y.ts.length hy.tc) = W4 at h5 r5 s5 ⊢
      obtain ⟨e0, e1, e2, e3, e4⟩ := five_cells h5
      clear hW
      refine bodyPost_ret (v := .tuple #[y.val hy, .int .i64 R2]) (by simp [results, Tryz.results161, go_sem, e0, e1, e2, e3, e4, Tm.val, Tm.vals]) rfl ⟨hy, rfl, ?_, ?_, s5⟩
      · exact (HF.out.step (RanS.of_ran r5 ⟨hB, by simp⟩)).less (fun q _ hq => ⟨hq.1, by simp; omega⟩)
      · exact HS.out.keep _ _ _ HI.out (r5.below hN (by omega))
    · rw [Tm.thr_node lf hts] at hR
      have hn0 : 0 < t.ts.length := List.length_pos_iff.2 hts
      obtain ⟨b', off', hao, hkid⟩ := HIN.out.kid 0 hn0
      have hrow := (Tm.In_iff.1 HIN.out).2.2.2
      rw [hao] at c4 hrow
      obtain ⟨ps0, hps0, hall⟩ := row_pairs hrow
      have hb' : b' < B := hkid.1
      have hpl0 : ps0.length = t.ts.length := by rw [← hps0]; simp
      have HPS0 := Lib.hid hps0
      have HALL := Lib.hid hall
      have HAO := Lib.hid hao
      have q22 : ∀ (w : World) (a : Option Addr) (n c n' c' : Nat), (binOp .eql 25 (.slice a n c) (.slice none n' c')).run Tryz.prog w = .ok (.bool a.isNone) w := fun w a n c n' c' => Lib.run_eql_slice_nil w _ _ a n c n' c' Tryz.underlying25
      have hne0 : ((t.ts.length : Int) == 0) = false := beq_eq_false_iff_ne.2 (by omega)
      clear hts hrow hps0 hall hao hkid S
      go_enter Tryz.func161, Tryz.ntmps161
      go_wp2_with fail
      go_loopw [29, 1, 8] (fun vi vu vl wr => ThrRel lf B P Inv Good w t u ps0 R vi vu vl wr) (fun vi _ _ _ => t.ts.length - (intOf vi).toNat)
      case atStart => exact ⟨0, st, u, false, ps0, rfl, rfl, by omega, Or.inl rfl, hpl0, rfl, hR.symm, HGD.out, HS.out.keep _ _ _ HIV.out (Below.mono (below_one _ _) hN), RanS.of_below (below_one _ _), World.alloc_heap_new _ _, Or.inl ⟨rfl, rfl, rfl⟩⟩
      case round =>
        clear hR HGD HIV c0 c1 c2 c3 c4
        obtain ⟨k, st', u', c, ps, rfl, rfl, hk, hu', hpl, hdr, hG, hgood', hI, hR', hA, hL⟩ := hrel
        obtain ⟨c0, c1, c2, c3, c4⟩ := HHD.out.ranS hR' hb hbP
        rw [HAO.out] at c4
        have hszr := hR'.size
        have hbel : Below B w wr := hR'.below HS.out.low hB
        have hltA : w.heap.size < wr.heap.size := (Array.getElem?_eq_some_iff.1 hA).1
        obtain ⟨a0, a1, a2, a3, a4⟩ := five_cells hA
        obtain ⟨f0, f1, f2, f3, f4⟩ := five_free hA
        have HA := Lib.hid hA
        have HG := Lib.hid hG
        have HGD := Lib.hid hgood'
        have HI := Lib.hid hI
        have HR := Lib.hid hR'
        have HUP := Lib.hid hu'
        have HL := Lib.hid hL
        have HPL := Lib.hid hpl
        have HDR := Lib.hid hdr
        have HBEL := Lib.hid hbel
        clear hA hG hgood' hI hR' hu' hL hpl hdr hbel
        by_cases hlt : k < t.ts.length
        · have HKID := Lib.hid (fun (W : World) (hW : Below wr.heap.size wr W) => by
            obtain ⟨b2, off2, hao2, hat2⟩ := (Tm.In.below HBEL.out _ _ HIN.out).kid k hlt
            rw [HAO.out] at hao2
            cases hao2
            exact (hat2.below (hW.mono (by omega))).sroot (P := P) HS.out.low (by have := hW.size; omega))
          by_cases hw1 : k + 1 < t.ts.length
          · have hq : ((k : Int) == (t.ts.length : Int) - 1) = false := beq_eq_false_iff_ne.2 (by omega)
            have hund : und t.k (t.ts.drop (k + 1)).isEmpty u' = u' := by
              unfold und; rw [if_neg]; rintro ⟨_, h2⟩
              have := List.length_drop (i := k + 1) (l := t.ts)
              rw [List.isEmpty_iff.1 h2] at this
              simp at this; omega
            have hU : Hid (u' = u ∨ (u' = u + 1 ∧ k + 1 = t.ts.length)) := Lib.hid (by have := HUP.out; omega)
            have hu2 : 0 ≤ u' ∧ u' ≤ d + 1 ∧ -4097 ≤ u' ∧ u' ≤ 4098 := by have := HUP.out; omega
            obtain ⟨Y, hY2⟩ : ∃ Y, t.ts[k].thr lf st' (u') = Y := ⟨_, rfl⟩
            have hY : t.ts[k].thr lf st' (und t.k (t.ts.drop (k + 1)).isEmpty u') = Y := by rw [hund]; exact hY2
            have HZ := Lib.hid (fun (W : World) (hW : Below wr.heap.size wr W) => HIH.out _ (List.getElem_mem hlt) st' b' (off' + k * 5) (d + 1) (u') W HGD.out (HS.out.keep _ _ _ HI.out (hW.mono (by omega))) (HOK.out.down _ (List.getElem_mem hlt)) hu2.1 hu2.2.1 (HKID.out W hW) (by have := hW.size; omega) (by have := hW.size; omega) (fun q hq => by have := HPW.out q hq; have := hW.size; omega))
            have HBAD : Hid (Y.2.1 ≠ 0 → (Y.1, Y.2.1, none) = R) := Lib.hid (fun he => by
              have h0 := HG.out
              rw [drop_get hlt, fin_bad lf hY he] at h0
              exact h0)
            have HGO : Hid (Y.2.1 = 0 → fin t.k t.n t.s (c || Y.2.2.isSome) ((ps.take k).map (·.1) ++ [Y.2.2.getD t.ts[k]]) (thrL lf t.k (t.ts.drop (k + 1)) Y.1 (u')) = R) := Lib.hid (fun he => by
              have h0 := HG.out
              rw [drop_get hlt, fin_ok lf hY he, hund] at h0
              exact h0)
            have HGD2 : Hid (Y.2.1 = 0 → Good Y.1) := Lib.hid (fun he => by
              rw [← hY] at he ⊢
              exact Tm.thr_good HS.out.good _ _ _ _ (HOK.out.down _ (List.getElem_mem hlt)) HGD.out he)
            have HKD : Hid (∀ y, Y.2.2 = some y → y.k ≠ 0) := Lib.hid (fun y hy => by
              rw [← hY] at hy
              exact Tm.thr_kind HS.out.kind (HOK.out.down _ (List.getElem_mem hlt)) hy)
            have HZ2 : Hid (∀ W, Below wr.heap.size wr W → Calls Tryz.prog 161 #[.pointer (some ⟨b', off' + k * 5, none⟩), .int .i64 (u'), fnv f C] W (ThrPost B P Y Inv W)) := Lib.hid (fun W hW => by
              have h0 := HZ.out W hW
              rw [hY2] at h0
              exact h0)
            obtain ⟨Y1, Y2, Y3⟩ := Y
            delta ThrPost at HZ2
            dsimp only at HBAD HGO HGD2 HKD HZ2
            clear HZ hY hY2 hund
            have hkp : k < ps.length := by rw [HPL.out]; exact hlt
            have hsame : ps[k].1 = t.ts[k] := by
              have h1 := drop_same HDR.out hkp (by rw [hpl0]; exact hlt)
              rw [h1]
              have h2 : (ps0.map (·.1))[k]'(by simp; omega) = t.ts[k] := by congr 1
              simpa using h2
            go_wp2_with fail
            refine (HZ2.out _ (Below.refl _ _)).mono ?_
            rintro e w3 ⟨hy, rfl, fY, iY, rY⟩
            have hW0 : Below wr.heap.size wr wr := Below.refl _ _
            have hz3 := rY.size
            have hA3 := rY.keep HA.out hAP
            have HR3 := Lib.hid (HR.out.trans rY)
            have HRY := Lib.hid rY
            have HFY := Lib.hid fY
            have HIY := Lib.hid iY
            clear rY fY iY c0 c1 c2 c3 c4 a0 a1 a2 a3 a4 f0 f1 f2 f3 f4
            by_cases he : Y2 = 0
            · subst he
              have HG2 := Lib.hid (HGO.out rfl)
              have HGD3 := Lib.hid (HGD2.out rfl)
              clear HBAD HGO HGD2
              cases Y3 with
              | none =>
                clear HKD HFY
                have hyk : (zeroT.k == 0) = true := rfl
                dsimp only [Option.getD, Tm.val, Tm.vals]
                generalize zeroT = y at hyk ⊢
                obtain ⟨wy, hwy⟩ : ∃ wy, wy = w3.alloc (y.box hy) := ⟨_, rfl⟩
                have hby : Below w3.heap.size w3 wy := hwy ▸ below_one _ _
                have hyb := hwy ▸ World.alloc_heap_new w3 (y.box hy)
                have HA4 := Lib.hid (Lvl.keep hby hA3)
                have HR4 := Lib.hid (HR3.out.trans (RanS.of_below hby))
                have HI4 := Lib.hid (HS.out.keep _ _ _ HIY.out (hby.mono (by omega)))
                have HL4 : Hid ((c = false ∧ u8 = .slice none 0 0 ∧ ps = ps0) ∨ (c = true ∧ ∃ L S cap, u8 = .slice (some ⟨L, 0, none⟩) t.ts.length cap ∧ w.heap.size < L ∧ TBlock wy L S ps ∧ ∀ p ∈ ps, FirmS (fun q => B ≤ q ∧ (q ≤ w.heap.size ∨ q = L)) wy p.1 p.2)) := Lib.hid (by
                  rcases HL.out with ⟨h1, h2, h3⟩ | ⟨h1, L, S, cap, h2, h3, h4, h5⟩
                  · exact Or.inl ⟨h1, h2, h3⟩
                  · have hst := HRY.out.trans (RanS.of_below hby)
                    exact Or.inr ⟨h1, L, S, cap, h2, h3, h4.ranS hst (fun hp => by have := HPW.out _ hp; omega), fun p hp => (h5 p hp).step (hst.wide (fun q hq => ⟨HS.out.low q hq, Or.inl (by have := HPW.out _ hq; omega)⟩))⟩)
                obtain ⟨y0, y1, y2, y3, y4⟩ := five_cells (show wy.heap[w3.heap.size]? = some (.cells #[.int .u8 y.k, .int .i64 y.n, .string y.s, .slice hy.lo y.ls.length hy.lc, .slice hy.to y.ts.length hy.tc] 27) from hyb)
                clear hA3 hby hyb
                have ew : w3.alloc (.cells #[.int .u8 y.k, .int .i64 y.n, .string y.s, .slice hy.lo y.ls.length hy.lc, .slice hy.to y.ts.length hy.tc] 27) = wy := hwy.symm
                go_upto_region 10 with fail
                first | rw [ew] | rw [← hwy]
                clear ew hwy
                go_wp2_with fail
                go_roundw
                case rel => exact ⟨k + 1, Y1, u', c, ps, by go_num, rfl, by omega, hU.out, HPL.out, drop_more HDR.out, by
                  rw [take_more hkp, hsame]
                  have h0 := HG2.out
                  rw [show (c || Option.isSome (none : Option Tm)) = c from Bool.or_false c] at h0
                  exact h0, HGD3.out, HI4.out, HR4.out, HA4.out, HL4.out⟩
                case measure => simp [intOf]; omega
              | some y =>
                have hyk : (y.k == 0) = false := by have := HKD.out y rfl; simpa using this
                clear HKD
                dsimp only [Option.getD, Tm.val, Tm.vals]
                obtain ⟨wy, hwy⟩ : ∃ wy, wy = w3.alloc (y.box hy) := ⟨_, rfl⟩
                have hby : Below w3.heap.size w3 wy := hwy ▸ below_one _ _
                have hyb := hwy ▸ World.alloc_heap_new w3 (y.box hy)
                have HA4 := Lib.hid (Lvl.keep hby hA3)
                have HST := Lib.hid (HRY.out.trans (RanS.of_below hby))
                have HR4 := Lib.hid (HR3.out.trans (RanS.of_below hby))
                have HI4 := Lib.hid (HS.out.keep _ _ _ HIY.out (hby.mono (by omega)))
                have HBY := Lib.hid hby
                have HYB := Lib.hid hyb
                have hzy := hby.size
                have hlw3 : w3.heap.size < wy.heap.size := (Array.getElem?_eq_some_iff.1 hyb).1
                obtain ⟨y0, y1, y2, y3, y4⟩ := five_cells (show wy.heap[w3.heap.size]? = some (.cells #[.int .u8 y.k, .int .i64 y.n, .string y.s, .slice hy.lo y.ls.length hy.lc, .slice hy.to y.ts.length hy.tc] 27) from hyb)
                clear hA3 hby hyb
                have ew : w3.alloc (.cells #[.int .u8 y.k, .int .i64 y.n, .string y.s, .slice hy.lo y.ls.length hy.lc, .slice hy.to y.ts.length hy.tc] 27) = wy := hwy.symm
                go_upto_region 10 with fail
                first | rw [ew] | rw [← hwy]
                clear ew hwy
                rcases HL.out with ⟨hc, hv, hps⟩ | ⟨hc, L, SS, cap, hv, hLA, htb, hfi⟩
                · subst hc hv
                  have HALL2 : Hid (∀ k (hk : k < ps.length), TCells w b' (off' + (0 + k) * 5) ps[k].1 ps[k].2 ∧ ps[k].1.In B w ps[k].2) := Lib.hid (by rw [hps]; exact HALL.out)
                  have hb4 := HR4.out.below HS.out.low hB
                  have HCL := Lib.hid (Clone_any b' off' t.ts.length h.tc ps wy HPL.out (by omega) (fun k hk => by
                    have h0 := (HALL2.out k hk).1.below hb4 hb'
                    rwa [Nat.zero_add] at h0) hn0)
                  obtain ⟨c0, c1, c2, c3, c4⟩ := HHD.out.ranS HR4.out hb hbP
                  rw [HAO.out] at c4
                  clear HL hps hb4
                  go_wp2_with fail
                  refine HCL.out.mono ?_
                  rintro e w5 ⟨L, SS, cap, rfl, hL1, hL2, tb, b5⟩
                  have hz5 := b5.size
                  have HI5 := Lib.hid (HS.out.keep _ _ _ HI4.out (b5.mono (by omega)))
                  have HR5 := Lib.hid (HR4.out.trans (RanS.of_below b5))
                  have HA5 := Lib.hid (Lvl.keep b5 HA4.out)
                  have hyb := Lvl.keep b5 HYB.out
                  have HB5 := Lib.hid b5
                  have HTB := Lib.hid tb
                  have hfr := fun o => tb.free o
                  have q0 := (tb.cells k hkp).c0
                  have q1 := (tb.cells k hkp).c1
                  have q2 := (tb.cells k hkp).c2
                  have q3 := (tb.cells k hkp).c3
                  have q4 := (tb.cells k hkp).c4
                  clear b5 tb y0 y1 y2 y3 y4 c0 c1 c2 c3 c4
                  obtain ⟨y0, y1, y2, y3, y4⟩ := five_cells (show w5.heap[w3.heap.size]? = some (.cells #[.int .u8 y.k, .int .i64 y.n, .string y.s, .slice hy.lo y.ls.length hy.lc, .slice hy.to y.ts.length hy.tc] 27) from hyb)
                  clear hyb
                  go_wp2_with fail
                  go_roundw
                  case rel =>
                    have hro := putO_ran w5 L (k * 5) (.int .u8 y.k) (.int .i64 y.n) (.string y.s) (.slice hy.lo y.ls.length hy.lc) (.slice hy.to y.ts.length hy.tc)
                    have hsp := RanS.putO HR5.out (by omega : w.heap.size ≤ L) (k * 5) (.int .u8 y.k) (.int .i64 y.n) (.string y.s) (.slice hy.lo y.ls.length hy.lc) (.slice hy.to y.ts.length hy.tc)
                    refine ⟨k + 1, Y1, u', true, ps.set k (y, hy), by go_num, rfl, by omega, hU.out, by rw [List.length_set]; exact HPL.out, (drop_set _).trans (drop_more HDR.out), by rw [take_set hkp (y, hy)]; exact HG2.out, HGD3.out, HS.out.keep _ _ _ HI5.out (hro.below (by omega) (by omega)), hsp, hro.keep HA5.out (by omega), Or.inr ⟨rfl, L, SS, cap, rfl, by omega, HTB.out.put k hkp (y, hy), ?_⟩⟩
                    intro p hp
                    rcases List.mem_or_eq_of_mem_set hp with hp | rfl
                    · obtain ⟨i, hi, rfl⟩ := List.getElem_of_mem hp
                      exact (FirmS.of (HALL2.out i hi).2 (fun q hq => hq.1) hB).step (hsp.wide (fun q hq => ⟨HS.out.low q hq, Or.inl (by have := HPW.out _ hq; omega)⟩))
                    · exact (HFY.out.less (fun q hq1 hq2 => ⟨hq2.1, by have := hq2.2; omega⟩)).step ((RanS.of_below HBY.out).trans ((RanS.of_below HB5.out).trans (RanS.of_ran hro ⟨by omega, Or.inr rfl⟩)))
                  case measure => simp [intOf]; omega
                · subst hc hv
                  have hst2 : RanS (fun q => B ≤ q ∧ (q ≤ w.heap.size ∨ q = L)) wr wy := HST.out.wide (fun q hq => ⟨HS.out.low q hq, Or.inl (by have := HPW.out _ hq; omega)⟩)
                  have hlL := htb.lt
                  have tb := htb.ranS HST.out (fun hp => by have := HPW.out _ hp; omega)
                  have HTB := Lib.hid tb
                  have HFI := Lib.hid (fun p hp => (hfi p hp).step hst2)
                  have hfr := fun o => tb.free o
                  have q0 := (tb.cells k hkp).c0
                  have q1 := (tb.cells k hkp).c1
                  have q2 := (tb.cells k hkp).c2
                  have q3 := (tb.cells k hkp).c3
                  have q4 := (tb.cells k hkp).c4
                  clear HL htb hfi hst2 tb
                  go_wp2_with fail
                  go_roundw
                  case rel =>
                    have hro := putO_ran wy L (k * 5) (.int .u8 y.k) (.int .i64 y.n) (.string y.s) (.slice hy.lo y.ls.length hy.lc) (.slice hy.to y.ts.length hy.tc)
                    have hsp := RanS.putO HR4.out (by omega : w.heap.size ≤ L) (k * 5) (.int .u8 y.k) (.int .i64 y.n) (.string y.s) (.slice hy.lo y.ls.length hy.lc) (.slice hy.to y.ts.length hy.tc)
                    refine ⟨k + 1, Y1, u', true, ps.set k (y, hy), by go_num, rfl, by omega, hU.out, by rw [List.length_set]; exact HPL.out, (drop_set _).trans (drop_more HDR.out), by rw [take_set hkp (y, hy)]; exact HG2.out, HGD3.out, HS.out.keep _ _ _ HI4.out (hro.below (by omega) (by omega)), hsp, hro.keep HA4.out (by omega), Or.inr ⟨rfl, L, SS, cap, rfl, by omega, HTB.out.put k hkp (y, hy), ?_⟩⟩
                    intro p hp
                    rcases List.mem_or_eq_of_mem_set hp with hp | rfl
                    · exact (HFI.out p hp).step (RanS.of_ran hro ⟨by omega, Or.inr rfl⟩)
                    · exact (HFY.out.less (fun q hq1 hq2 => ⟨hq2.1, by have := hq2.2; omega⟩)).step ((RanS.of_below HBY.out).trans (RanS.of_ran hro ⟨by omega, Or.inr rfl⟩))
                  case measure => simp [intOf]; omega
            · have he2 : (Y2 != 0) = true := by simpa using he
              have HE2 := Lib.hid (HBAD.out he)
              generalize hyy : Y3.getD zeroT = y at HFY ⊢
              clear hyy HBAD HGO HGD2 HKD
              dsimp only [Tm.val, Tm.vals]
              obtain ⟨wy, hwy⟩ : ∃ wy, wy = w3.alloc (y.box hy) := ⟨_, rfl⟩
              have hby : Below w3.heap.size w3 wy := hwy ▸ below_one _ _
              have HA4 := Lib.hid (Lvl.keep hby hA3)
              have HR4 := Lib.hid (HR3.out.trans (RanS.of_below hby))
              have HI4 := Lib.hid (HS.out.keep _ _ _ HIY.out (hby.mono (by omega)))
              have hzy := hby.size
              obtain ⟨a0, a1, a2, a3, a4⟩ := five_cells HA4.out
              obtain ⟨f0, f1, f2, f3, f4⟩ := five_free HA4.out
              clear hA3 hby he
              have ew : w3.alloc (.cells #[.int .u8 y.k, .int .i64 y.n, .string y.s, .slice hy.lo y.ls.length hy.lc, .slice hy.to y.ts.length hy.tc] 27) = wy := hwy.symm
              go_upto_region 10 with fail
              first | rw [ew] | rw [← hwy]
              clear ew hwy
              go_wp2_with fail
              have h5 := putT_self HA4.out (.int .u8 0) (.int .i64 0) (.string no) (.slice none 0 0) (.slice none 0 0)
              have r5 := putT_ran (wy) w.heap.size (.int .u8 0) (.int .i64 0) (.string no) (.slice none 0 0) (.slice none 0 0)
              have s5 := RanS.put HR4.out (Nat.le_refl w.heap.size) (.int .u8 0) (.int .i64 0) (.string no) (.slice none 0 0) (.slice none 0 0)
              have z5 : w.heap.size < (wy).heap.size := (Array.getElem?_eq_some_iff.1 HA4.out).1
              unfold putT no at h5 r5 s5
              generalize hW : ((((((wy).setCell ⟨w.heap.size, 0, none⟩ (.int .u8 0)).setCell ⟨w.heap.size, 1, none⟩ (.int .i64 0)).setCell ⟨w.heap.size, 2, none⟩ (.string ⟨#[]⟩)).setCell ⟨w.heap.size, 3, none⟩ (.slice none 0 0)).setCell ⟨w.heap.size, 4, none⟩ (.slice none 0 0)) = W4 at h5 r5 s5 ⊢
              obtain ⟨g0, g1, g2, g3, g4⟩ := five_cells h5
              clear hW
              exact bodyPost_ret (v := .tuple #[zeroT.val ⟨none, 0, none, 0⟩, .int .i64 Y2]) (by simp [results, Tryz.results161, go_sem, g0, g1, g2, g3, g4, zeroT, Tm.val, Tm.vals, Tm.k, Tm.n, Tm.s, Tm.ls, Tm.ts, no]) rfl (HE2.out ▸ ⟨⟨none, 0, none, 0⟩, rfl, firm_zero, HS.out.keep _ _ _ HI4.out (r5.below hN (by omega)), s5⟩)
          · cases hbi : binds t.k
            · have hq : ((k : Int) == (t.ts.length : Int) - 1) = true := beq_iff_eq.2 (by omega)
              have hund : und t.k (t.ts.drop (k + 1)).isEmpty u' = u' := by unfold und; rw [if_neg]; rintro ⟨h2, _⟩; rw [hbi] at h2; cases h2
              have hU : Hid (u' = u ∨ (u' = u + 1 ∧ k + 1 = t.ts.length)) := Lib.hid (by have := HUP.out; omega)
              have hu2 : 0 ≤ u' ∧ u' ≤ d + 1 ∧ -4097 ≤ u' ∧ u' ≤ 4098 := by have := HUP.out; omega
              obtain ⟨Y, hY2⟩ : ∃ Y, t.ts[k].thr lf st' (u') = Y := ⟨_, rfl⟩
              have hY : t.ts[k].thr lf st' (und t.k (t.ts.drop (k + 1)).isEmpty u') = Y := by rw [hund]; exact hY2
              have HZ := Lib.hid (fun (W : World) (hW : Below wr.heap.size wr W) => HIH.out _ (List.getElem_mem hlt) st' b' (off' + k * 5) (d + 1) (u') W HGD.out (HS.out.keep _ _ _ HI.out (hW.mono (by omega))) (HOK.out.down _ (List.getElem_mem hlt)) hu2.1 hu2.2.1 (HKID.out W hW) (by have := hW.size; omega) (by have := hW.size; omega) (fun q hq => by have := HPW.out q hq; have := hW.size; omega))
              have HBAD : Hid (Y.2.1 ≠ 0 → (Y.1, Y.2.1, none) = R) := Lib.hid (fun he => by
                have h0 := HG.out
                rw [drop_get hlt, fin_bad lf hY he] at h0
                exact h0)
              have HGO : Hid (Y.2.1 = 0 → fin t.k t.n t.s (c || Y.2.2.isSome) ((ps.take k).map (·.1) ++ [Y.2.2.getD t.ts[k]]) (thrL lf t.k (t.ts.drop (k + 1)) Y.1 (u')) = R) := Lib.hid (fun he => by
                have h0 := HG.out
                rw [drop_get hlt, fin_ok lf hY he, hund] at h0
                exact h0)
              have HGD2 : Hid (Y.2.1 = 0 → Good Y.1) := Lib.hid (fun he => by
                rw [← hY] at he ⊢
                exact Tm.thr_good HS.out.good _ _ _ _ (HOK.out.down _ (List.getElem_mem hlt)) HGD.out he)
              have HKD : Hid (∀ y, Y.2.2 = some y → y.k ≠ 0) := Lib.hid (fun y hy => by
                rw [← hY] at hy
                exact Tm.thr_kind HS.out.kind (HOK.out.down _ (List.getElem_mem hlt)) hy)
              have HZ2 : Hid (∀ W, Below wr.heap.size wr W → Calls Tryz.prog 161 #[.pointer (some ⟨b', off' + k * 5, none⟩), .int .i64 (u'), fnv f C] W (ThrPost B P Y Inv W)) := Lib.hid (fun W hW => by
                have h0 := HZ.out W hW
                rw [hY2] at h0
                exact h0)
              obtain ⟨Y1, Y2, Y3⟩ := Y
              delta ThrPost at HZ2
              dsimp only at HBAD HGO HGD2 HKD HZ2
              clear HZ hY hY2 hund
              have hkp : k < ps.length := by rw [HPL.out]; exact hlt
              have hsame : ps[k].1 = t.ts[k] := by
                have h1 := drop_same HDR.out hkp (by rw [hpl0]; exact hlt)
                rw [h1]
                have h2 : (ps0.map (·.1))[k]'(by simp; omega) = t.ts[k] := by congr 1
                simpa using h2
              go_wp2_with fail
              refine (binds_any _ _).mono ?_
              rintro e w2 ⟨rfl, rfl⟩
              rw [hbi]
              go_wp2_with fail
              refine (HZ2.out _ (Below.refl _ _)).mono ?_
              rintro e w3 ⟨hy, rfl, fY, iY, rY⟩
              have hz3 := rY.size
              have hA3 := rY.keep HA.out hAP
              have HR3 := Lib.hid (HR.out.trans rY)
              have HRY := Lib.hid rY
              have HFY := Lib.hid fY
              have HIY := Lib.hid iY
              clear rY fY iY c0 c1 c2 c3 c4 a0 a1 a2 a3 a4 f0 f1 f2 f3 f4
              by_cases he : Y2 = 0
              · subst he
                have HG2 := Lib.hid (HGO.out rfl)
                have HGD3 := Lib.hid (HGD2.out rfl)
                clear HBAD HGO HGD2
                cases Y3 with
                | none =>
                  clear HKD HFY
                  have hyk : (zeroT.k == 0) = true := rfl
                  dsimp only [Option.getD, Tm.val, Tm.vals]
                  generalize zeroT = y at hyk ⊢
                  obtain ⟨wy, hwy⟩ : ∃ wy, wy = w3.alloc (y.box hy) := ⟨_, rfl⟩
                  have hby : Below w3.heap.size w3 wy := hwy ▸ below_one _ _
                  have hyb := hwy ▸ World.alloc_heap_new w3 (y.box hy)
                  have HA4 := Lib.hid (Lvl.keep hby hA3)
                  have HR4 := Lib.hid (HR3.out.trans (RanS.of_below hby))
                  have HI4 := Lib.hid (HS.out.keep _ _ _ HIY.out (hby.mono (by omega)))
                  have HL4 : Hid ((c = false ∧ u8 = .slice none 0 0 ∧ ps = ps0) ∨ (c = true ∧ ∃ L S cap, u8 = .slice (some ⟨L, 0, none⟩) t.ts.length cap ∧ w.heap.size < L ∧ TBlock wy L S ps ∧ ∀ p ∈ ps, FirmS (fun q => B ≤ q ∧ (q ≤ w.heap.size ∨ q = L)) wy p.1 p.2)) := Lib.hid (by
                    rcases HL.out with ⟨h1, h2, h3⟩ | ⟨h1, L, S, cap, h2, h3, h4, h5⟩
                    · exact Or.inl ⟨h1, h2, h3⟩
                    · have hst := HRY.out.trans (RanS.of_below hby)
                      exact Or.inr ⟨h1, L, S, cap, h2, h3, h4.ranS hst (fun hp => by have := HPW.out _ hp; omega), fun p hp => (h5 p hp).step (hst.wide (fun q hq => ⟨HS.out.low q hq, Or.inl (by have := HPW.out _ hq; omega)⟩))⟩)
                  obtain ⟨y0, y1, y2, y3, y4⟩ := five_cells (show wy.heap[w3.heap.size]? = some (.cells #[.int .u8 y.k, .int .i64 y.n, .string y.s, .slice hy.lo y.ls.length hy.lc, .slice hy.to y.ts.length hy.tc] 27) from hyb)
                  clear hA3 hby hyb
                  have ew : w3.alloc (.cells #[.int .u8 y.k, .int .i64 y.n, .string y.s, .slice hy.lo y.ls.length hy.lc, .slice hy.to y.ts.length hy.tc] 27) = wy := hwy.symm
                  go_upto_region 10 with fail
                  first | rw [ew] | rw [← hwy]
                  clear ew hwy
                  go_wp2_with fail
                  go_roundw
                  case rel => exact ⟨k + 1, Y1, u', c, ps, by go_num, rfl, by omega, hU.out, HPL.out, drop_more HDR.out, by
                    rw [take_more hkp, hsame]
                    have h0 := HG2.out
                    rw [show (c || Option.isSome (none : Option Tm)) = c from Bool.or_false c] at h0
                    exact h0, HGD3.out, HI4.out, HR4.out, HA4.out, HL4.out⟩
                  case measure => simp [intOf]; omega
                | some y =>
                  have hyk : (y.k == 0) = false := by have := HKD.out y rfl; simpa using this
                  clear HKD
                  dsimp only [Option.getD, Tm.val, Tm.vals]
                  obtain ⟨wy, hwy⟩ : ∃ wy, wy = w3.alloc (y.box hy) := ⟨_, rfl⟩
                  have hby : Below w3.heap.size w3 wy := hwy ▸ below_one _ _
                  have hyb := hwy ▸ World.alloc_heap_new w3 (y.box hy)
                  have HA4 := Lib.hid (Lvl.keep hby hA3)
                  have HST := Lib.hid (HRY.out.trans (RanS.of_below hby))
                  have HR4 := Lib.hid (HR3.out.trans (RanS.of_below hby))
                  have HI4 := Lib.hid (HS.out.keep _ _ _ HIY.out (hby.mono (by omega)))
                  have HBY := Lib.hid hby
                  have HYB := Lib.hid hyb
                  have hzy := hby.size
                  have hlw3 : w3.heap.size < wy.heap.size := (Array.getElem?_eq_some_iff.1 hyb).1
                  obtain ⟨y0, y1, y2, y3, y4⟩ := five_cells (show wy.heap[w3.heap.size]? = some (.cells #[.int .u8 y.k, .int .i64 y.n, .string y.s, .slice hy.lo y.ls.length hy.lc, .slice hy.to y.ts.length hy.tc] 27) from hyb)
                  clear hA3 hby hyb
                  have ew : w3.alloc (.cells #[.int .u8 y.k, .int .i64 y.n, .string y.s, .slice hy.lo y.ls.length hy.lc, .slice hy.to y.ts.length hy.tc] 27) = wy := hwy.symm
                  go_upto_region 10 with fail
                  first | rw [ew] | rw [← hwy]
                  clear ew hwy
                  rcases HL.out with ⟨hc, hv, hps⟩ | ⟨hc, L, SS, cap, hv, hLA, htb, hfi⟩
                  · subst hc hv
                    have HALL2 : Hid (∀ k (hk : k < ps.length), TCells w b' (off' + (0 + k) * 5) ps[k].1 ps[k].2 ∧ ps[k].1.In B w ps[k].2) := Lib.hid (by rw [hps]; exact HALL.out)
                    have hb4 := HR4.out.below HS.out.low hB
                    have HCL := Lib.hid (Clone_any b' off' t.ts.length h.tc ps wy HPL.out (by omega) (fun k hk => by
                      have h0 := (HALL2.out k hk).1.below hb4 hb'
                      rwa [Nat.zero_add] at h0) hn0)
                    obtain ⟨c0, c1, c2, c3, c4⟩ := HHD.out.ranS HR4.out hb hbP
                    rw [HAO.out] at c4
                    clear HL hps hb4
                    go_wp2_with fail
                    refine HCL.out.mono ?_
                    rintro e w5 ⟨L, SS, cap, rfl, hL1, hL2, tb, b5⟩
                    have hz5 := b5.size
                    have HI5 := Lib.hid (HS.out.keep _ _ _ HI4.out (b5.mono (by omega)))
                    have HR5 := Lib.hid (HR4.out.trans (RanS.of_below b5))
                    have HA5 := Lib.hid (Lvl.keep b5 HA4.out)
                    have hyb := Lvl.keep b5 HYB.out
                    have HB5 := Lib.hid b5
                    have HTB := Lib.hid tb
                    have hfr := fun o => tb.free o
                    have q0 := (tb.cells k hkp).c0
                    have q1 := (tb.cells k hkp).c1
                    have q2 := (tb.cells k hkp).c2
                    have q3 := (tb.cells k hkp).c3
                    have q4 := (tb.cells k hkp).c4
                    clear b5 tb y0 y1 y2 y3 y4 c0 c1 c2 c3 c4
                    obtain ⟨y0, y1, y2, y3, y4⟩ := five_cells (show w5.heap[w3.heap.size]? = some (.cells #[.int .u8 y.k, .int .i64 y.n, .string y.s, .slice hy.lo y.ls.length hy.lc, .slice hy.to y.ts.length hy.tc] 27) from hyb)
                    clear hyb
                    go_wp2_with fail
                    go_roundw
                    case rel =>
                      have hro := putO_ran w5 L (k * 5) (.int .u8 y.k) (.int .i64 y.n) (.string y.s) (.slice hy.lo y.ls.length hy.lc) (.slice hy.to y.ts.length hy.tc)
                      have hsp := RanS.putO HR5.out (by omega : w.heap.size ≤ L) (k * 5) (.int .u8 y.k) (.int .i64 y.n) (.string y.s) (.slice hy.lo y.ls.length hy.lc) (.slice hy.to y.ts.length hy.tc)
                      refine ⟨k + 1, Y1, u', true, ps.set k (y, hy), by go_num, rfl, by omega, hU.out, by rw [List.length_set]; exact HPL.out, (drop_set _).trans (drop_more HDR.out), by rw [take_set hkp (y, hy)]; exact HG2.out, HGD3.out, HS.out.keep _ _ _ HI5.out (hro.below (by omega) (by omega)), hsp, hro.keep HA5.out (by omega), Or.inr ⟨rfl, L, SS, cap, rfl, by omega, HTB.out.put k hkp (y, hy), ?_⟩⟩
                      intro p hp
                      rcases List.mem_or_eq_of_mem_set hp with hp | rfl
                      · obtain ⟨i, hi, rfl⟩ := List.getElem_of_mem hp
                        exact (FirmS.of (HALL2.out i hi).2 (fun q hq => hq.1) hB).step (hsp.wide (fun q hq => ⟨HS.out.low q hq, Or.inl (by have := HPW.out _ hq; omega)⟩))
                      · exact (HFY.out.less (fun q hq1 hq2 => ⟨hq2.1, by have := hq2.2; omega⟩)).step ((RanS.of_below HBY.out).trans ((RanS.of_below HB5.out).trans (RanS.of_ran hro ⟨by omega, Or.inr rfl⟩)))
                    case measure => simp [intOf]; omega
                  · subst hc hv
                    have hst2 : RanS (fun q => B ≤ q ∧ (q ≤ w.heap.size ∨ q = L)) wr wy := HST.out.wide (fun q hq => ⟨HS.out.low q hq, Or.inl (by have := HPW.out _ hq; omega)⟩)
                    have hlL := htb.lt
                    have tb := htb.ranS HST.out (fun hp => by have := HPW.out _ hp; omega)
                    have HTB := Lib.hid tb
                    have HFI := Lib.hid (fun p hp => (hfi p hp).step hst2)
                    have hfr := fun o => tb.free o
                    have q0 := (tb.cells k hkp).c0
                    have q1 := (tb.cells k hkp).c1
                    have q2 := (tb.cells k hkp).c2
                    have q3 := (tb.cells k hkp).c3
                    have q4 := (tb.cells k hkp).c4
                    clear HL htb hfi hst2 tb
                    go_wp2_with fail
                    go_roundw
                    case rel =>
                      have hro := putO_ran wy L (k * 5) (.int .u8 y.k) (.int .i64 y.n) (.string y.s) (.slice hy.lo y.ls.length hy.lc) (.slice hy.to y.ts.length hy.tc)
                      have hsp := RanS.putO HR4.out (by omega : w.heap.size ≤ L) (k * 5) (.int .u8 y.k) (.int .i64 y.n) (.string y.s) (.slice hy.lo y.ls.length hy.lc) (.slice hy.to y.ts.length hy.tc)
                      refine ⟨k + 1, Y1, u', true, ps.set k (y, hy), by go_num, rfl, by omega, hU.out, by rw [List.length_set]; exact HPL.out, (drop_set _).trans (drop_more HDR.out), by rw [take_set hkp (y, hy)]; exact HG2.out, HGD3.out, HS.out.keep _ _ _ HI4.out (hro.below (by omega) (by omega)), hsp, hro.keep HA4.out (by omega), Or.inr ⟨rfl, L, SS, cap, rfl, by omega, HTB.out.put k hkp (y, hy), ?_⟩⟩
                      intro p hp
                      rcases List.mem_or_eq_of_mem_set hp with hp | rfl
                      · exact (HFI.out p hp).step (RanS.of_ran hro ⟨by omega, Or.inr rfl⟩)
                      · exact (HFY.out.less (fun q hq1 hq2 => ⟨hq2.1, by have := hq2.2; omega⟩)).step ((RanS.of_below HBY.out).trans (RanS.of_ran hro ⟨by omega, Or.inr rfl⟩))
                    case measure => simp [intOf]; omega
              · have he2 : (Y2 != 0) = true := by simpa using he
                have HE2 := Lib.hid (HBAD.out he)
                generalize hyy : Y3.getD zeroT = y at HFY ⊢
                clear hyy HBAD HGO HGD2 HKD
                dsimp only [Tm.val, Tm.vals]
                obtain ⟨wy, hwy⟩ : ∃ wy, wy = w3.alloc (y.box hy) := ⟨_, rfl⟩
                have hby : Below w3.heap.size w3 wy := hwy ▸ below_one _ _
                have HA4 := Lib.hid (Lvl.keep hby hA3)
                have HR4 := Lib.hid (HR3.out.trans (RanS.of_below hby))
                have HI4 := Lib.hid (HS.out.keep _ _ _ HIY.out (hby.mono (by omega)))
                have hzy := hby.size
                obtain ⟨a0, a1, a2, a3, a4⟩ := five_cells HA4.out
                obtain ⟨f0, f1, f2, f3, f4⟩ := five_free HA4.out
                clear hA3 hby he
                have ew : w3.alloc (.cells #[.int .u8 y.k, .int .i64 y.n, .string y.s, .slice hy.lo y.ls.length hy.lc, .slice hy.to y.ts.length hy.tc] 27) = wy := hwy.symm
                go_upto_region 10 with fail
                first | rw [ew] | rw [← hwy]
                clear ew hwy
                go_wp2_with fail
                have h5 := putT_self HA4.out (.int .u8 0) (.int .i64 0) (.string no) (.slice none 0 0) (.slice none 0 0)
                have r5 := putT_ran (wy) w.heap.size (.int .u8 0) (.int .i64 0) (.string no) (.slice none 0 0) (.slice none 0 0)
                have s5 := RanS.put HR4.out (Nat.le_refl w.heap.size) (.int .u8 0) (.int .i64 0) (.string no) (.slice none 0 0) (.slice none 0 0)
                have z5 : w.heap.size < (wy).heap.size := (Array.getElem?_eq_some_iff.1 HA4.out).1
                unfold putT no at h5 r5 s5
                generalize hW : ((((((wy).setCell ⟨w.heap.size, 0, none⟩ (.int .u8 0)).setCell ⟨w.heap.size, 1, none⟩ (.int .i64 0)).setCell ⟨w.heap.size, 2, none⟩ (.string ⟨#[]⟩)).setCell ⟨w.heap.size, 3, none⟩ (.slice none 0 0)).setCell ⟨w.heap.size, 4, none⟩ (.slice none 0 0)) = W4 at h5 r5 s5 ⊢
                obtain ⟨g0, g1, g2, g3, g4⟩ := five_cells h5
                clear hW
                exact bodyPost_ret (v := .tuple #[zeroT.val ⟨none, 0, none, 0⟩, .int .i64 Y2]) (by simp [results, Tryz.results161, go_sem, g0, g1, g2, g3, g4, zeroT, Tm.val, Tm.vals, Tm.k, Tm.n, Tm.s, Tm.ls, Tm.ts, no]) rfl (HE2.out ▸ ⟨⟨none, 0, none, 0⟩, rfl, firm_zero, HS.out.keep _ _ _ HI4.out (r5.below hN (by omega)), s5⟩)
            · have hq : ((k : Int) == (t.ts.length : Int) - 1) = true := beq_iff_eq.2 (by omega)
              have hund : und t.k (t.ts.drop (k + 1)).isEmpty u' = u' + 1 := by
                unfold und; rw [if_pos]; exact ⟨hbi, by rw [List.drop_eq_nil_of_le (by omega)]; rfl⟩
              have hU : Hid (u' + 1 = u ∨ (u' + 1 = u + 1 ∧ k + 1 = t.ts.length)) := Lib.hid (by have := HUP.out; omega)
              have hu2 : 0 ≤ u' + 1 ∧ u' + 1 ≤ d + 1 ∧ -4097 ≤ u' ∧ u' ≤ 4098 := by have := HUP.out; omega
              obtain ⟨Y, hY2⟩ : ∃ Y, t.ts[k].thr lf st' (u' + 1) = Y := ⟨_, rfl⟩
              have hY : t.ts[k].thr lf st' (und t.k (t.ts.drop (k + 1)).isEmpty u') = Y := by rw [hund]; exact hY2
              have HZ := Lib.hid (fun (W : World) (hW : Below wr.heap.size wr W) => HIH.out _ (List.getElem_mem hlt) st' b' (off' + k * 5) (d + 1) (u' + 1) W HGD.out (HS.out.keep _ _ _ HI.out (hW.mono (by omega))) (HOK.out.down _ (List.getElem_mem hlt)) hu2.1 hu2.2.1 (HKID.out W hW) (by have := hW.size; omega) (by have := hW.size; omega) (fun q hq => by have := HPW.out q hq; have := hW.size; omega))
              have HBAD : Hid (Y.2.1 ≠ 0 → (Y.1, Y.2.1, none) = R) := Lib.hid (fun he => by
                have h0 := HG.out
                rw [drop_get hlt, fin_bad lf hY he] at h0
                exact h0)
              have HGO : Hid (Y.2.1 = 0 → fin t.k t.n t.s (c || Y.2.2.isSome) ((ps.take k).map (·.1) ++ [Y.2.2.getD t.ts[k]]) (thrL lf t.k (t.ts.drop (k + 1)) Y.1 (u' + 1)) = R) := Lib.hid (fun he => by
                have h0 := HG.out
                rw [drop_get hlt, fin_ok lf hY he, hund] at h0
                exact h0)
              have HGD2 : Hid (Y.2.1 = 0 → Good Y.1) := Lib.hid (fun he => by
                rw [← hY] at he ⊢
                exact Tm.thr_good HS.out.good _ _ _ _ (HOK.out.down _ (List.getElem_mem hlt)) HGD.out he)
              have HKD : Hid (∀ y, Y.2.2 = some y → y.k ≠ 0) := Lib.hid (fun y hy => by
                rw [← hY] at hy
                exact Tm.thr_kind HS.out.kind (HOK.out.down _ (List.getElem_mem hlt)) hy)
              have HZ2 : Hid (∀ W, Below wr.heap.size wr W → Calls Tryz.prog 161 #[.pointer (some ⟨b', off' + k * 5, none⟩), .int .i64 (u' + 1), fnv f C] W (ThrPost B P Y Inv W)) := Lib.hid (fun W hW => by
                have h0 := HZ.out W hW
                rw [hY2] at h0
                exact h0)
              obtain ⟨Y1, Y2, Y3⟩ := Y
              delta ThrPost at HZ2
              dsimp only at HBAD HGO HGD2 HKD HZ2
              clear HZ hY hY2 hund
              have hkp : k < ps.length := by rw [HPL.out]; exact hlt
              have hsame : ps[k].1 = t.ts[k] := by
                have h1 := drop_same HDR.out hkp (by rw [hpl0]; exact hlt)
                rw [h1]
                have h2 : (ps0.map (·.1))[k]'(by simp; omega) = t.ts[k] := by congr 1
                simpa using h2
              go_wp2_with fail
              refine (binds_any _ _).mono ?_
              rintro e w2 ⟨rfl, rfl⟩
              rw [hbi]
              go_wp2_with fail
              refine (HZ2.out _ (Below.refl _ _)).mono ?_
              rintro e w3 ⟨hy, rfl, fY, iY, rY⟩
              have hz3 := rY.size
              have hA3 := rY.keep HA.out hAP
              have HR3 := Lib.hid (HR.out.trans rY)
              have HRY := Lib.hid rY
              have HFY := Lib.hid fY
              have HIY := Lib.hid iY
              clear rY fY iY c0 c1 c2 c3 c4 a0 a1 a2 a3 a4 f0 f1 f2 f3 f4
              by_cases he : Y2 = 0
              · subst he
                have HG2 := Lib.hid (HGO.out rfl)
                have HGD3 := Lib.hid (HGD2.out rfl)
                clear HBAD HGO HGD2
                cases Y3 with
                | none =>
                  clear HKD HFY
                  have hyk : (zeroT.k == 0) = true := rfl
                  dsimp only [Option.getD, Tm.val, Tm.vals]
                  generalize zeroT = y at hyk ⊢
                  obtain ⟨wy, hwy⟩ : ∃ wy, wy = w3.alloc (y.box hy) := ⟨_, rfl⟩
                  have hby : Below w3.heap.size w3 wy := hwy ▸ below_one _ _
                  have hyb := hwy ▸ World.alloc_heap_new w3 (y.box hy)
                  have HA4 := Lib.hid (Lvl.keep hby hA3)
                  have HR4 := Lib.hid (HR3.out.trans (RanS.of_below hby))
                  have HI4 := Lib.hid (HS.out.keep _ _ _ HIY.out (hby.mono (by omega)))
                  have HL4 : Hid ((c = false ∧ u8 = .slice none 0 0 ∧ ps = ps0) ∨ (c = true ∧ ∃ L S cap, u8 = .slice (some ⟨L, 0, none⟩) t.ts.length cap ∧ w.heap.size < L ∧ TBlock wy L S ps ∧ ∀ p ∈ ps, FirmS (fun q => B ≤ q ∧ (q ≤ w.heap.size ∨ q = L)) wy p.1 p.2)) := Lib.hid (by
                    rcases HL.out with ⟨h1, h2, h3⟩ | ⟨h1, L, S, cap, h2, h3, h4, h5⟩
                    · exact Or.inl ⟨h1, h2, h3⟩
                    · have hst := HRY.out.trans (RanS.of_below hby)
                      exact Or.inr ⟨h1, L, S, cap, h2, h3, h4.ranS hst (fun hp => by have := HPW.out _ hp; omega), fun p hp => (h5 p hp).step (hst.wide (fun q hq => ⟨HS.out.low q hq, Or.inl (by have := HPW.out _ hq; omega)⟩))⟩)
                  obtain ⟨y0, y1, y2, y3, y4⟩ := five_cells (show wy.heap[w3.heap.size]? = some (.cells #[.int .u8 y.k, .int .i64 y.n, .string y.s, .slice hy.lo y.ls.length hy.lc, .slice hy.to y.ts.length hy.tc] 27) from hyb)
                  clear hA3 hby hyb
                  have ew : w3.alloc (.cells #[.int .u8 y.k, .int .i64 y.n, .string y.s, .slice hy.lo y.ls.length hy.lc, .slice hy.to y.ts.length hy.tc] 27) = wy := hwy.symm
                  go_upto_region 10 with fail
                  first | rw [ew] | rw [← hwy]
                  clear ew hwy
                  go_wp2_with fail
                  go_roundw
                  case rel => exact ⟨k + 1, Y1, u' + 1, c, ps, by go_num, rfl, by omega, hU.out, HPL.out, drop_more HDR.out, by
                    rw [take_more hkp, hsame]
                    have h0 := HG2.out
                    rw [show (c || Option.isSome (none : Option Tm)) = c from Bool.or_false c] at h0
                    exact h0, HGD3.out, HI4.out, HR4.out, HA4.out, HL4.out⟩
                  case measure => simp [intOf]; omega
                | some y =>
                  have hyk : (y.k == 0) = false := by have := HKD.out y rfl; simpa using this
                  clear HKD
                  dsimp only [Option.getD, Tm.val, Tm.vals]
                  obtain ⟨wy, hwy⟩ : ∃ wy, wy = w3.alloc (y.box hy) := ⟨_, rfl⟩
                  have hby : Below w3.heap.size w3 wy := hwy ▸ below_one _ _
                  have hyb := hwy ▸ World.alloc_heap_new w3 (y.box hy)
                  have HA4 := Lib.hid (Lvl.keep hby hA3)
                  have HST := Lib.hid (HRY.out.trans (RanS.of_below hby))
                  have HR4 := Lib.hid (HR3.out.trans (RanS.of_below hby))
                  have HI4 := Lib.hid (HS.out.keep _ _ _ HIY.out (hby.mono (by omega)))
                  have HBY := Lib.hid hby
                  have HYB := Lib.hid hyb
                  have hzy := hby.size
                  have hlw3 : w3.heap.size < wy.heap.size := (Array.getElem?_eq_some_iff.1 hyb).1
                  obtain ⟨y0, y1, y2, y3, y4⟩ := five_cells (show wy.heap[w3.heap.size]? = some (.cells #[.int .u8 y.k, .int .i64 y.n, .string y.s, .slice hy.lo y.ls.length hy.lc, .slice hy.to y.ts.length hy.tc] 27) from hyb)
                  clear hA3 hby hyb
                  have ew : w3.alloc (.cells #[.int .u8 y.k, .int .i64 y.n, .string y.s, .slice hy.lo y.ls.length hy.lc, .slice hy.to y.ts.length hy.tc] 27) = wy := hwy.symm
                  go_upto_region 10 with fail
                  first | rw [ew] | rw [← hwy]
                  clear ew hwy
                  rcases HL.out with ⟨hc, hv, hps⟩ | ⟨hc, L, SS, cap, hv, hLA, htb, hfi⟩
                  · subst hc hv
                    have HALL2 : Hid (∀ k (hk : k < ps.length), TCells w b' (off' + (0 + k) * 5) ps[k].1 ps[k].2 ∧ ps[k].1.In B w ps[k].2) := Lib.hid (by rw [hps]; exact HALL.out)
                    have hb4 := HR4.out.below HS.out.low hB
                    have HCL := Lib.hid (Clone_any b' off' t.ts.length h.tc ps wy HPL.out (by omega) (fun k hk => by
                      have h0 := (HALL2.out k hk).1.below hb4 hb'
                      rwa [Nat.zero_add] at h0) hn0)
                    obtain ⟨c0, c1, c2, c3, c4⟩ := HHD.out.ranS HR4.out hb hbP
                    rw [HAO.out] at c4
                    clear HL hps hb4
                    go_wp2_with fail
                    refine HCL.out.mono ?_
                    rintro e w5 ⟨L, SS, cap, rfl, hL1, hL2, tb, b5⟩
                    have hz5 := b5.size
                    have HI5 := Lib.hid (HS.out.keep _ _ _ HI4.out (b5.mono (by omega)))
                    have HR5 := Lib.hid (HR4.out.trans (RanS.of_below b5))
                    have HA5 := Lib.hid (Lvl.keep b5 HA4.out)
                    have hyb := Lvl.keep b5 HYB.out
                    have HB5 := Lib.hid b5
                    have HTB := Lib.hid tb
                    have hfr := fun o => tb.free o
                    have q0 := (tb.cells k hkp).c0
                    have q1 := (tb.cells k hkp).c1
                    have q2 := (tb.cells k hkp).c2
                    have q3 := (tb.cells k hkp).c3
                    have q4 := (tb.cells k hkp).c4
                    clear b5 tb y0 y1 y2 y3 y4 c0 c1 c2 c3 c4
                    obtain ⟨y0, y1, y2, y3, y4⟩ := five_cells (show w5.heap[w3.heap.size]? = some (.cells #[.int .u8 y.k, .int .i64 y.n, .string y.s, .slice hy.lo y.ls.length hy.lc, .slice hy.to y.ts.length hy.tc] 27) from hyb)
                    clear hyb
                    go_wp2_with fail
                    go_roundw
                    case rel =>
                      have hro := putO_ran w5 L (k * 5) (.int .u8 y.k) (.int .i64 y.n) (.string y.s) (.slice hy.lo y.ls.length hy.lc) (.slice hy.to y.ts.length hy.tc)
                      have hsp := RanS.putO HR5.out (by omega : w.heap.size ≤ L) (k * 5) (.int .u8 y.k) (.int .i64 y.n) (.string y.s) (.slice hy.lo y.ls.length hy.lc) (.slice hy.to y.ts.length hy.tc)
                      refine ⟨k + 1, Y1, u' + 1, true, ps.set k (y, hy), by go_num, rfl, by omega, hU.out, by rw [List.length_set]; exact HPL.out, (drop_set _).trans (drop_more HDR.out), by rw [take_set hkp (y, hy)]; exact HG2.out, HGD3.out, HS.out.keep _ _ _ HI5.out (hro.below (by omega) (by omega)), hsp, hro.keep HA5.out (by omega), Or.inr ⟨rfl, L, SS, cap, rfl, by omega, HTB.out.put k hkp (y, hy), ?_⟩⟩
                      intro p hp
                      rcases List.mem_or_eq_of_mem_set hp with hp | rfl
                      · obtain ⟨i, hi, rfl⟩ := List.getElem_of_mem hp
                        exact (FirmS.of (HALL2.out i hi).2 (fun q hq => hq.1) hB).step (hsp.wide (fun q hq => ⟨HS.out.low q hq, Or.inl (by have := HPW.out _ hq; omega)⟩))
                      · exact (HFY.out.less (fun q hq1 hq2 => ⟨hq2.1, by have := hq2.2; omega⟩)).step ((RanS.of_below HBY.out).trans ((RanS.of_below HB5.out).trans (RanS.of_ran hro ⟨by omega, Or.inr rfl⟩)))
                    case measure => simp [intOf]; omega
                  · subst hc hv
                    have hst2 : RanS (fun q => B ≤ q ∧ (q ≤ w.heap.size ∨ q = L)) wr wy := HST.out.wide (fun q hq => ⟨HS.out.low q hq, Or.inl (by have := HPW.out _ hq; omega)⟩)
                    have hlL := htb.lt
                    have tb := htb.ranS HST.out (fun hp => by have := HPW.out _ hp; omega)
                    have HTB := Lib.hid tb
                    have HFI := Lib.hid (fun p hp => (hfi p hp).step hst2)
                    have hfr := fun o => tb.free o
                    have q0 := (tb.cells k hkp).c0
                    have q1 := (tb.cells k hkp).c1
                    have q2 := (tb.cells k hkp).c2
                    have q3 := (tb.cells k hkp).c3
                    have q4 := (tb.cells k hkp).c4
                    clear HL htb hfi hst2 tb
                    go_wp2_with fail
                    go_roundw
                    case rel =>
                      have hro := putO_ran wy L (k * 5) (.int .u8 y.k) (.int .i64 y.n) (.string y.s) (.slice hy.lo y.ls.length hy.lc) (.slice hy.to y.ts.length hy.tc)
                      have hsp := RanS.putO HR4.out (by omega : w.heap.size ≤ L) (k * 5) (.int .u8 y.k) (.int .i64 y.n) (.string y.s) (.slice hy.lo y.ls.length hy.lc) (.slice hy.to y.ts.length hy.tc)
                      refine ⟨k + 1, Y1, u' + 1, true, ps.set k (y, hy), by go_num, rfl, by omega, hU.out, by rw [List.length_set]; exact HPL.out, (drop_set _).trans (drop_more HDR.out), by rw [take_set hkp (y, hy)]; exact HG2.out, HGD3.out, HS.out.keep _ _ _ HI4.out (hro.below (by omega) (by omega)), hsp, hro.keep HA4.out (by omega), Or.inr ⟨rfl, L, SS, cap, rfl, by omega, HTB.out.put k hkp (y, hy), ?_⟩⟩
                      intro p hp
                      rcases List.mem_or_eq_of_mem_set hp with hp | rfl
                      · exact (HFI.out p hp).step (RanS.of_ran hro ⟨by omega, Or.inr rfl⟩)
                      · exact (HFY.out.less (fun q hq1 hq2 => ⟨hq2.1, by have := hq2.2; omega⟩)).step ((RanS.of_below HBY.out).trans (RanS.of_ran hro ⟨by omega, Or.inr rfl⟩))
                    case measure => simp [intOf]; omega
              · have he2 : (Y2 != 0) = true := by simpa using he
                have HE2 := Lib.hid (HBAD.out he)
                generalize hyy : Y3.getD zeroT = y at HFY ⊢
                clear hyy HBAD HGO HGD2 HKD
                dsimp only [Tm.val, Tm.vals]
                obtain ⟨wy, hwy⟩ : ∃ wy, wy = w3.alloc (y.box hy) := ⟨_, rfl⟩
                have hby : Below w3.heap.size w3 wy := hwy ▸ below_one _ _
                have HA4 := Lib.hid (Lvl.keep hby hA3)
                have HR4 := Lib.hid (HR3.out.trans (RanS.of_below hby))
                have HI4 := Lib.hid (HS.out.keep _ _ _ HIY.out (hby.mono (by omega)))
                have hzy := hby.size
                obtain ⟨a0, a1, a2, a3, a4⟩ := five_cells HA4.out
                obtain ⟨f0, f1, f2, f3, f4⟩ := five_free HA4.out
                clear hA3 hby he
                have ew : w3.alloc (.cells #[.int .u8 y.k, .int .i64 y.n, .string y.s, .slice hy.lo y.ls.length hy.lc, .slice hy.to y.ts.length hy.tc] 27) = wy := hwy.symm
                go_upto_region 10 with fail
                first | rw [ew] | rw [← hwy]
                clear ew hwy
                go_wp2_with fail
                have h5 := putT_self HA4.out (.int .u8 0) (.int .i64 0) (.string no) (.slice none 0 0) (.slice none 0 0)
                have r5 := putT_ran (wy) w.heap.size (.int .u8 0) (.int .i64 0) (.string no) (.slice none 0 0) (.slice none 0 0)
                have s5 := RanS.put HR4.out (Nat.le_refl w.heap.size) (.int .u8 0) (.int .i64 0) (.string no) (.slice none 0 0) (.slice none 0 0)
                have z5 : w.heap.size < (wy).heap.size := (Array.getElem?_eq_some_iff.1 HA4.out).1
                unfold putT no at h5 r5 s5
                generalize hW : ((((((wy).setCell ⟨w.heap.size, 0, none⟩ (.int .u8 0)).setCell ⟨w.heap.size, 1, none⟩ (.int .i64 0)).setCell ⟨w.heap.size, 2, none⟩ (.string ⟨#[]⟩)).setCell ⟨w.heap.size, 3, none⟩ (.slice none 0 0)).setCell ⟨w.heap.size, 4, none⟩ (.slice none 0 0)) = W4 at h5 r5 s5 ⊢
                obtain ⟨g0, g1, g2, g3, g4⟩ := five_cells h5
                clear hW
                exact bodyPost_ret (v := .tuple #[zeroT.val ⟨none, 0, none, 0⟩, .int .i64 Y2]) (by simp [results, Tryz.results161, go_sem, g0, g1, g2, g3, g4, zeroT, Tm.val, Tm.vals, Tm.k, Tm.n, Tm.s, Tm.ls, Tm.ts, no]) rfl (HE2.out ▸ ⟨⟨none, 0, none, 0⟩, rfl, firm_zero, HS.out.keep _ _ _ HI4.out (r5.below hN (by omega)), s5⟩)
        · have hkn : k = t.ts.length := by omega
          subst hkn
          have HE : Hid ((st', 0, if c = true then some (.mk t.k t.n t.s [] (ps.map (·.1))) else none) = R) := Lib.hid (by
            have h0 := HG.out
            rw [List.drop_length, fin_nil, List.take_of_length_le (by rw [HPL.out]; exact Nat.le_refl _)] at h0
            exact h0)
          rcases HL.out with ⟨rfl, rfl, rfl⟩ | ⟨rfl, L, SS, cap, rfl, hLA, htb, hfi⟩
          · have HE2 : Hid ((st', 0, none) = R) := Lib.hid (by have h0 := HE.out; simpa using h0)
            clear HE HL
            go_wp2_with fail
            have h5 := putT_self HA.out (.int .u8 0) (.int .i64 0) (.string no) (.slice none 0 0) (.slice none 0 0)
            have r5 := putT_ran (wr) w.heap.size (.int .u8 0) (.int .i64 0) (.string no) (.slice none 0 0) (.slice none 0 0)
            have s5 := RanS.put HR.out (Nat.le_refl w.heap.size) (.int .u8 0) (.int .i64 0) (.string no) (.slice none 0 0) (.slice none 0 0)
            have z5 : w.heap.size < (wr).heap.size := (Array.getElem?_eq_some_iff.1 HA.out).1
            unfold putT no at h5 r5 s5
            generalize hW : ((((((wr).setCell ⟨w.heap.size, 0, none⟩ (.int .u8 0)).setCell ⟨w.heap.size, 1, none⟩ (.int .i64 0)).setCell ⟨w.heap.size, 2, none⟩ (.string ⟨#[]⟩)).setCell ⟨w.heap.size, 3, none⟩ (.slice none 0 0)).setCell ⟨w.heap.size, 4, none⟩ (.slice none 0 0)) = W4 at h5 r5 s5 ⊢
            obtain ⟨g0, g1, g2, g3, g4⟩ := five_cells h5
            clear hW
            exact bodyPost_ret (v := .tuple #[zeroT.val ⟨none, 0, none, 0⟩, .int .i64 0]) (by simp [results, Tryz.results161, go_sem, g0, g1, g2, g3, g4, zeroT, Tm.val, Tm.vals, Tm.k, Tm.n, Tm.s, Tm.ls, Tm.ts, no]) rfl (HE2.out ▸ ⟨⟨none, 0, none, 0⟩, rfl, firm_zero, HS.out.keep _ _ _ HI.out (r5.below hN (by omega)), s5⟩)
          · have HE2 : Hid ((st', 0, some (.mk t.k t.n t.s [] (ps.map (·.1)))) = R) := Lib.hid (by have h0 := HE.out; simpa using h0)
            have HTB := Lib.hid htb
            have HFI := Lib.hid hfi
            have hlL := htb.lt
            clear HE HL htb hfi
            have hneAb : w.heap.size ≠ b := by omega
            go_wp2_with fail
            go_region
            go_wp2_with fail
            have h5 := putT_self HA.out (.int .u8 t.k) (.int .i64 t.n) (.string t.s) (.slice none 0 0) (.slice (some ⟨L, 0, none⟩) t.ts.length cap)
            have r5 := putT_ran wr w.heap.size (.int .u8 t.k) (.int .i64 t.n) (.string t.s) (.slice none 0 0) (.slice (some ⟨L, 0, none⟩) t.ts.length cap)
            have s5 := RanS.put HR.out (Nat.le_refl w.heap.size) (.int .u8 t.k) (.int .i64 t.n) (.string t.s) (.slice none 0 0) (.slice (some ⟨L, 0, none⟩) t.ts.length cap)
            unfold putT at h5 r5 s5
            generalize hW : ((((wr.setCell ⟨w.heap.size, 0, none⟩ (.int .u8 t.k)).setCell ⟨w.heap.size, 1, none⟩ (.int .i64 t.n)).setCell ⟨w.heap.size, 2, none⟩ (.string t.s)).setCell ⟨w.heap.size, 3, none⟩ (.slice none 0 0)).setCell ⟨w.heap.size, 4, none⟩ (.slice (some ⟨L, 0, none⟩) t.ts.length cap) = W4 at h5 r5 s5 ⊢
            have hdr : Below W4.heap.size W4 W4.drew := (Below.refl _ _).drew
            obtain ⟨g0, g1, g2, g3, g4⟩ := five_cells (Lvl.keep hdr h5)
            have r6 : RanS (fun q => B ≤ q ∧ (q ≤ w.heap.size ∨ q = L)) wr W4.drew := (RanS.of_ran r5 ⟨hB, Or.inl (Nat.le_refl _)⟩).trans (RanS.of_below hdr)
            have tb6 : TBlock W4.drew L SS ps := TBlock.drew (HTB.out.ran r5 (by omega))
            have hfit := HIN.out.fit
            have hval : (Tm.mk t.k t.n t.s [] (ps.map (·.1))).val ⟨none, 0, some ⟨L, 0, none⟩, cap⟩ = .agg #[.int .u8 t.k, .int .i64 t.n, .string t.s, .slice none 0 0, .slice (some ⟨L, 0, none⟩) t.ts.length cap] := by
              simp [Tm.val, Tm.vals, Tm.k, Tm.n, Tm.s, Tm.ls, Tm.ts, HPL.out]
            clear hW
            refine bodyPost_ret (v := .tuple #[.agg #[.int .u8 t.k, .int .i64 t.n, .string t.s, .slice none 0 0, .slice (some ⟨L, 0, none⟩) t.ts.length cap], .int .i64 0]) (by simp [results, Tryz.results161, go_sem, g0, g1, g2, g3, g4]) rfl (HE2.out ▸ ⟨⟨none, 0, some ⟨L, 0, none⟩, cap⟩, by rw [← hval]; rfl, ?_, HS.out.keep _ _ _ HI.out ((r5.below hN (by omega)).trans (hdr.mono (by have := r5.size; omega))), s5.trans (RanS.of_below hdr)⟩)
            exact firm_row tb6 (fun hp => by omega) (fun q hq => ⟨hq.1, Or.inl (by omega)⟩) (fun p hp => (HFI.out p hp).step r6) hfit.k0 hfit.k1 hfit.n0 hfit.n1 hfit.s (by rw [HPL.out]; omega)
end Go.Proofs.YtiekbhlnnmnklaaGreat



namespace Go.Proofs.YtiekbhlnnmnklaaGreat
open Go.RowKit Go.Shelf Lvl Trm

/-- One more than the greatest free variable; of a term that may not be 0. -/
def Trm.Tm.free (t : Tm) : Int := if t.may = true then (t.vs 0).foldl (fun n v => max n (v + 1)) 0 else 0
def Trm.Tm.has (t : Tm) (k : Int) : Bool := t.may && (t.vs 0).any (· == k)

set_option maxRecDepth 100000 in
set_option maxHeartbeats 1000000 in
theorem vars_free (n : Int) (t : Tm) (h : Hd) (B m : Nat) (w : World) (hin : t.In B w h) (hB : B ≤ m) (hm : w.heap[m]? = some (.cells #[.int .i64 n] 3)) :
    Calls Tryz.prog 210 #[t.val h, .func (.func 211) #[] #[.pointer (some ⟨m, 0, none⟩)]] w fun e w' => e = .returned (.tuple #[]) ∧ w'.heap[m]? = some (.cells #[.int .i64 (if t.may = true then (t.vs 0).foldl (fun n v => max n (v + 1)) n else n)] 3) ∧ Ran m w w' := by
  have hml := (Array.getElem?_eq_some_iff.1 hm).1
  have HMAY := Lib.hid (fun (W : World) (hW : Below w.heap.size w W) => PMay_any t h W (Tm.In.mono (by have := hW.size; omega) _ _ (Tm.In.below (hW.mono (by omega)) _ _ hin)))
  have HW := Lib.hid (fun (hmay : t.may = true) (W : World) (h1 : Below w.heap.size w W) (h0 : W.heap[w.heap.size]? = some (t.box h)) (h2 : W.heap[w.heap.size + 1]? = some (.cells #[.func (.func 211) #[] #[.pointer (some ⟨m, 0, none⟩)]] 188)) =>
    walk_any (sees_free hB (C := w.heap.size + 1) (by omega)) t n w.heap.size 0 W trivial ⟨Lvl.keep h1 hm, h2⟩ (OkMay.start hmay) ⟨by omega, (Array.getElem?_eq_some_iff.1 h0).1, h, Tm.cells h0, Tm.In.below (h1.mono (by omega)) _ _ hin⟩ (by have := h1.size; omega) (by have := h1.size; omega))
  simp only [Tm.walk_free] at HW
  have HM := Lib.hid hm
  clear hin hm
  unfold Tm.box at HW
  unfold Tm.val at HMAY ⊢
  dsimp only [Tm.vals] at HMAY HW ⊢
  cases hmay : t.may
  · rw [hmay] at HMAY HW
    simp only [Bool.false_eq_true, if_false]
    clear HW hmay
    go_enter Tryz.func210, Tryz.ntmps210
    go_wp2_with fail
    refine (HMAY.out _ (below_two w _ _)).mono ?_
    rintro e w1 ⟨rfl, b1⟩
    have HB := Lib.hid ((below_two w _ _).trans (b1.mono (by simp; omega)))
    clear b1
    go_wp2_with fail
    refine bodyPost_ret (results_none rfl _ _ _) rfl ?_
    exact ⟨rfl, Lvl.keep HB.out HM.out, Ran.of_below HB.out⟩
  · rw [hmay] at HMAY
    have HW' := Lib.hid (HW.out hmay)
    simp only [if_true]
    clear hmay HW
    generalize (t.vs 0).foldl (fun n v => max n (v + 1)) n = R at HW' ⊢
    go_enter Tryz.func210, Tryz.ntmps210
    go_wp2_with fail
    refine (HMAY.out _ (below_two w _ _)).mono ?_
    rintro e w1 ⟨rfl, b1⟩
    have HB := Lib.hid ((below_two w _ _).trans (b1.mono (by simp; omega)))
    have HX := Lib.hid (HW'.out w1 HB.out (Lvl.keep b1 (new1of2 w _ _)) (Lvl.keep b1 (new2 w _ _)))
    have hc0 := (Tm.cells (t := t) (h := h) (Lvl.keep b1 (new1of2 w _ _)))
    clear b1
    go_wp2_with fail
    refine HX.out.mono ?_
    rintro e w2 ⟨rfl, i2, g2⟩
    have HI := Lib.hid i2.1
    have HR := Lib.hid ((Ran.of_below HB.out).trans g2)
    clear i2 g2
    go_wp2_with fail
    go_end0
    exact ⟨rfl, HI.out, HR.out⟩

set_option maxRecDepth 100000 in
set_option maxHeartbeats 1000000 in
theorem PFree_any (t : Tm) (h : Hd) (w : World) (hin : t.In w.heap.size w h) :
    Calls Tryz.prog 189 #[t.val h] w fun e w' => e = .returned (.int .i64 t.free) ∧ Below w.heap.size w w' := by
  have HX := Lib.hid (vars_free 0 t h w.heap.size (w.heap.size + 1) ((w.alloc (t.box h)).alloc (.cells #[.int .i64 0] 3)) (Tm.In.below (below_two w _ _) _ _ hin) (by omega) (new2 _ _ _))
  unfold Tm.free
  generalize (if t.may = true then (t.vs 0).foldl (fun n v => max n (v + 1)) 0 else 0) = R at HX ⊢
  clear hin
  unfold Tm.box at HX
  unfold Tm.val at HX ⊢
  dsimp only [Tm.vals] at HX ⊢
  go_enter Tryz.func189, Tryz.ntmps189
  go_wp2_with fail
  refine HX.out.mono ?_
  rintro e w1 ⟨rfl, i1, g1⟩
  have HB := Lib.hid ((below_two w _ _).trans (g1.below (B := w.heap.size) (by omega) (by simp; omega)))
  have hc := one_cell i1
  clear i1 g1
  go_wp2_with fail
  go_ret
  exact ⟨rfl, HB.out⟩

end Go.Proofs.YtiekbhlnnmnklaaGreat



namespace Go.Proofs.YtiekbhlnnmnklaaGreat
open Lvl Trm

namespace Trm
def top (l : List Int) : Int := l.foldl (fun n v => max n (v + 1)) 0
theorem fold_ge (l : List Int) : ∀ n : Int, n ≤ l.foldl (fun n v => max n (v + 1)) n ∧ ∀ v ∈ l, v < l.foldl (fun n v => max n (v + 1)) n := by
  induction l with
  | nil => intro n; exact ⟨Int.le_refl _, fun v hv => by cases hv⟩
  | cons a r ih =>
    intro n
    obtain ⟨h1, h2⟩ := ih (max n (a + 1))
    refine ⟨by simp only [List.foldl_cons]; omega, fun v hv => ?_⟩
    simp only [List.foldl_cons]
    rcases List.mem_cons.1 hv with rfl | hr
    · omega
    · exact h2 v hr
end Trm
end Go.Proofs.YtiekbhlnnmnklaaGreat



namespace Go.Proofs.YtiekbhlnnmnklaaGreat
open Lvl Trm

namespace Trm
mutual
/-- Terms in the place of the free variables: g says which, of a number and the binders around it. -/
def Tm.put (g : Int → Int → Tm) : Tm → Int → Tm
  | .mk k n s ls ts, u => if k = 2 ∧ u ≤ n then g (n - u) u else .mk k n s ls (putL g k ts 0 u)
def putL (g : Int → Int → Tm) (k : Int) : List Tm → Nat → Int → List Tm
  | [], _, _ => []
  | t :: r, i, u => t.put g (under k i u) :: putL g k r (i + 1) (under k i u)
end
/-- Other numbers for the free variables. -/
def ren (r : Int → Int) : Int → Int → Tm := fun v u => tV (r v + u)
end Trm
end Go.Proofs.YtiekbhlnnmnklaaGreat



namespace Go.Proofs.YtiekbhlnnmnklaaGreat
open Lvl Trm

namespace Trm
/-! Lift. -/
def gLift (fr by_ : Int) : Int → Int → Tm := ren (fun v => if v < fr then v else v + by_)
/-! Close. -/
end Trm
end Go.Proofs.YtiekbhlnnmnklaaGreat


