/-
  battenref05.put: a term that may be, its parts ahead.
-/
import Derived.Test.YtjicdmohnfcflaaQArnRef
import Derived.Deep.AppendLies
import Derived.Laws.OwnMore
namespace Go.Proofs.Ytjicdmohnfcflaa
open Go.RowKit Go.Shelf Go.Maps Lvl Trm Arn

namespace Arn
theorem own_keepR {w w' : World} {base e size n : Nat} {v : Value} {xs : List Value} (h : w.ownsRow base e size v n xs) (b : Below w.heap.size w w') : w'.ownsRow base e size v n xs := ownsRow_same h fun q hq => b.block q (h.lt q hq).2
theorem drawn_size (w : World) (o : Obj) : (w.drew.alloc o).heap.size = w.heap.size + 1 := World.size_alloc _ _
theorem drawn_size2 (w : World) (o : Obj) : (w.alloc o).drew.heap.size = w.heap.size + 1 := World.size_alloc _ _
/-- What put makes of the document's arena. -/
def RPost (B b0 : Nat) (w : World) (bb : Nat) (t : Tm) (L : List Tm) (v : Value) (e : Ending) (w' : World) : Prop :=
  ∃ v' ps', e = .returned (.int .i64 (num (Tm.ins t L) t : Nat)) ∧ RB B b0 w' bb (Tm.ins t L) v' ps' ∧ (∀ q, v'.ownBlock = some q → v.ownBlock = some q ∨ w.heap.size ≤ q) ∧ RanS (fun q => q = bb ∨ v.ownBlock = some q) w w'
/-- Behind some of the parts. -/
def PRel (B b0 bb : Nat) (w : World) (o : Obj) (t : Tm) (L : List Tm) (v i : Value) (wr : World) : Prop :=
  ∃ (k : Nat) (vk : Value) (pk : List (Tm × Hd)), i = .int .i64 k ∧ k ≤ t.ts.length ∧ RB B b0 wr bb (insL (t.ts.take k) L) vk pk ∧ (∀ q, vk.ownBlock = some q → v.ownBlock = some q ∨ w.heap.size < q) ∧ RanS (fun q => q = bb ∨ v.ownBlock = some q) w wr ∧ wr.heap[w.heap.size]? = some o
theorem rb_low {B b0 bb : Nat} {w w' : World} {L : List Tm} {v : Value} {ps : List (Tm × Hd)} (h : RB B b0 w bb L v ps) (hr : RanS (fun q => q = bb ∨ v.ownBlock = some q) w w') : Below B w w' :=
  hr.below (fun q hq => by
    rcases hq with rfl | hq
    · exact h.bbB
    · have := (h.row.row.lt q hq).1; have := h.row.le; omega) (by have := h.row.le; have := h.row.b0le; omega)
theorem zero_one : ∀ u ∈ ([.int .u8 0, .int .i64 0, .string ⟨#[]⟩, .slice none 0 0, .slice none 0 0] : List Value), u.oneCell' = true := by
  intro u hu
  simp at hu
  rcases hu with rfl | rfl | rfl | rfl <;> rfl
theorem set_five {F : List Value} {z0 z1 z2 z3 z4 a b c d e : Value} {n : Nat} (hn : n = F.length) :
    ((((((F ++ [z0, z1, z2, z3, z4]).set n a).set (n + 1) b).set (n + 2) c).set (n + 3) d).set (n + 4) e) = F ++ [a, b, c, d, e] := by
  subst hn
  simp
theorem put_row {w : World} {b0 g n cap : Nat} {ps : List (Tm × Hd)} (h : w.ownsRow b0 26 5 (.slice (some ⟨g, 0, none⟩) n cap) n (flat ps ++ [.int .u8 0, .int .i64 0, .string ⟨#[]⟩, .slice none 0 0, .slice none 0 0])) (_hn : n = ps.length + 1) (t : Tm) (hd : Hd) :
    (putO w g (ps.length * 5) (.int .u8 t.k) (.int .i64 t.n) (.string t.s) (.slice hd.lo t.ls.length hd.lc) (.slice hd.to t.ts.length hd.tc)).ownsRow b0 26 5 (.slice (some ⟨g, 0, none⟩) n cap) n (flat (ps ++ [(t, hd)])) := by
  have h0 := (h.stored (ps.length * 5) (.int .u8 t.k)).1
  have h1 := (h0.stored (ps.length * 5 + 1) (.int .i64 t.n)).1
  have h2 := (h1.stored (ps.length * 5 + 2) (.string t.s)).1
  have h3 := (h2.stored (ps.length * 5 + 3) (.slice hd.lo t.ls.length hd.lc)).1
  have h4 := (h3.stored (ps.length * 5 + 4) (.slice hd.to t.ts.length hd.tc)).1
  rw [set_five (by rw [flat_len])] at h4
  rw [show flat (ps ++ [(t, hd)]) = flat ps ++ [.int .u8 t.k, .int .i64 t.n, .string t.s, .slice hd.lo t.ls.length hd.lc, .slice hd.to t.ts.length hd.tc] by simp [flat, Tm.vals]]
  exact h4
theorem RPost.add {B b0 bb : Nat} {w wr W0 w5 w6 : World} {L M : List Tm} {t : Tm} {h : Hd} {v u : Value} {ps pk : List (Tm × Hd)} {o : Obj} {g1 cap1 : Nat} (hrb : RB B b0 w bb L v ps) (hin : t.In B w h) (hM : M = insL t.ts L) (hn : t ∉ L) (hran : RanS (fun q => q = bb ∨ v.ownBlock = some q) w wr)
    (hov : ∀ q, u.ownBlock = some q → v.ownBlock = some q ∨ w.heap.size < q) (hrw : RB B b0 wr bb M u pk) (hb0 : Below wr.heap.size wr W0)
    (h5 : w5.ownsRow b0 26 5 (.slice (some ⟨g1, 0, none⟩) (pk.length + 1) cap1) (pk.length + 1) (flat pk ++ [.int .u8 0, .int .i64 0, .string ⟨#[]⟩, .slice none 0 0, .slice none 0 0]))
    (g5 : (W0.alloc o).grownBy w5 u.ownBlock) (hat : u.ownBlock = some g1 ∨ g1 = W0.heap.size + 1)
    (h6 : w6 = (putO w5 g1 (pk.length * 5) (.int .u8 t.k) (.int .i64 t.n) (.string t.s) (.slice h.lo t.ls.length h.lc) (.slice h.to t.ts.length h.tc)).setCell ⟨bb, 0, none⟩ (.slice (some ⟨g1, 0, none⟩) (pk.length + 1) cap1) ∨ w6 = putO (w5.setCell ⟨bb, 0, none⟩ (.slice (some ⟨g1, 0, none⟩) (pk.length + 1) cap1)) g1 (pk.length * 5) (.int .u8 t.k) (.int .i64 t.n) (.string t.s) (.slice h.lo t.ls.length h.lc) (.slice h.to t.ts.length h.tc)) :
    RPost B b0 w bb t L v (.returned (.int .i64 (pk.length : Int))) w6 ∧ w6.heap[bb]? = some (.cells #[.slice (some ⟨g1, 0, none⟩) (pk.length + 1) cap1] 33) := by
  have s1 := hran.size
  have s0 := hb0.size
  have s5 := g5.size
  rw [World.size_alloc] at s5
  have hbbr : bb < wr.heap.size := (Array.getElem?_eq_some_iff.1 hrw.box).1
  have hgb : g1 ≠ bb := by
    rcases hat with e | e
    · intro e2; subst e2; exact hrw.apart e
    · omega
  have hins := ins_new hn
  rw [← hM] at hins
  have hnM : t ∉ M := by
    intro hm
    rw [hM] at hm
    rcases insL_small t.ts L t hm with h1 | h1
    · exact hn h1
    · rw [Tm.size_eq t] at h1; omega
  have hbox5 : w5.heap[bb]? = some (.cells #[u] 33) := by
    rw [g5.block bb (by rw [World.size_alloc]; omega) (fun e => hrw.apart e.symm), (below_one W0 o).block bb (by omega), hb0.block bb hbbr]
    exact hrw.box
  let P : Nat → Prop := fun q => q = bb ∨ u.ownBlock = some q ∨ wr.heap.size ≤ q
  have hPg : P g1 := by
    rcases hat with e | e
    · exact Or.inr (Or.inl e)
    · exact Or.inr (Or.inr (by omega))
  have r5 : RanS P wr w5 := ((RanS.of_below hb0).trans ((RanS.of_below (below_one W0 o)).trans (grown_ran5 g5 (fun q e => Or.inr (Or.inl e)))))
  have hboxset : ∀ W : World, W.heap[bb]? = some (.cells #[u] 33) → (W.setCell ⟨bb, 0, none⟩ (.slice (some ⟨g1, 0, none⟩) (pk.length + 1) cap1)).heap[bb]? = some (.cells #[.slice (some ⟨g1, 0, none⟩) (pk.length + 1) cap1] 33) := fun W hW => by
    have := cells_set (i := 0) hW (.slice (some ⟨g1, 0, none⟩) (pk.length + 1) cap1)
    simpa using this
  have key : w6.heap[bb]? = some (.cells #[.slice (some ⟨g1, 0, none⟩) (pk.length + 1) cap1] 33) ∧ w6.ownsRow b0 26 5 (.slice (some ⟨g1, 0, none⟩) (pk.length + 1) cap1) (pk.length + 1) (flat (pk ++ [(t, h)])) ∧ RanS P wr w6 := by
    rcases h6 with rfl | rfl
    · have hr := putO_ran w5 g1 (pk.length * 5) (.int .u8 t.k) (.int .i64 t.n) (.string t.s) (.slice h.lo t.ls.length h.lc) (.slice h.to t.ts.length h.tc)
      have hbl5 : bb < w5.heap.size := (Array.getElem?_eq_some_iff.1 hbox5).1
      refine ⟨hboxset _ ((hr.block bb hbl5 (fun e => hgb e.symm)).trans hbox5), ownsRow_same (put_row h5 rfl t h) (fun q hq => RowKit.Below.heap_setCell _ _ _ _ (show q ≠ bb from fun e => by injection hq with hq; exact hgb (hq.trans e))), (r5.trans (RanS.of_ran hr hPg)).trans (set_ran _ _ _ _ (Or.inl rfl))⟩
    · have hr := putO_ran (w5.setCell ⟨bb, 0, none⟩ (.slice (some ⟨g1, 0, none⟩) (pk.length + 1) cap1)) g1 (pk.length * 5) (.int .u8 t.k) (.int .i64 t.n) (.string t.s) (.slice h.lo t.ls.length h.lc) (.slice h.to t.ts.length h.tc)
      have hb5' := hboxset _ hbox5
      have hbl5 := (Array.getElem?_eq_some_iff.1 hb5').1
      refine ⟨(hr.block bb hbl5 (fun e => hgb e.symm)).trans hb5', put_row (ownsRow_same h5 (fun q hq => RowKit.Below.heap_setCell _ _ _ _ (show q ≠ bb from fun e => by injection hq with hq; exact hgb (hq.trans e)))) rfl t h, (r5.trans (set_ran _ _ _ _ (Or.inl rfl))).trans (RanS.of_ran hr hPg)⟩
  obtain ⟨k1, k2, k3⟩ := key
  have rall : RanS (fun q => q = bb ∨ v.ownBlock = some q) w w6 := ranS_go hran k3 (fun q hq => by
    rcases hq with e | e | e
    · exact Or.inl (Or.inl e)
    · exact (hov q e).imp Or.inr (fun h => by omega)
    · exact Or.inr (by omega))
  have hbl := rb_low hrb rall
  have hbl2 : Below B wr w6 := k3.below (fun q hq => by
    have hb1 := hrw.row.le
    have hb2 := hrw.row.b0le
    rcases hq with e | e | e
    · rw [e]; exact hrw.bbB
    · have := (hrw.row.row.lt q e).1; omega
    · omega) (by have := hrw.row.le; have := hrw.row.b0le; omega)
  refine ⟨?_, k1⟩
  refine ⟨_, pk ++ [(t, h)], ?_, ⟨k1, ⟨?_, ?_, ?_, hrb.row.le, ?_⟩, hrb.bbB, ?_⟩, ?_, rall⟩
  · rw [hins, num_snoc hnM, hrw.row.len]
  · rw [List.length_append, List.length_singleton]
    exact k2
  · rw [List.map_append, hrw.row.map, hins]
    rfl
  · intro p hp
    rcases List.mem_append.1 hp with hp | hp
    · exact Tm.In.below hbl2 _ _ (hrw.row.lie p hp)
    · simp at hp
      subst hp
      exact Tm.In.below hbl _ _ hin
  · have := hrb.row.b0le; have := rall.size; omega
  · intro e
    injection e with e
    exact hgb e
  · intro q hq
    injection hq with hq
    have hq2 : g1 = q := hq
    subst hq2
    rcases hat with e | e
    · exact (hov _ e).imp id (fun h => by omega)
    · exact Or.inr (by omega)
end Arn
set_option maxRecDepth 100000 in
set_option maxHeartbeats 8000000 in
theorem rput_any (B b0 bb : Nat) (t : Tm) : ∀ (w : World) (L : List Tm) (v : Value) (ps : List (Tm × Hd)) (h : Hd), RB B b0 w bb L v ps → t.In B w h → (L.length : Int) + t.size ≤ 1000000 → OkL L → t.may = true →
    Calls Try.prog 32 #[.pointer (some ⟨bb, 0, none⟩), t.val h] w (RPost B b0 w bb t L v) := by
  induction t using Tm.ind with
  | h t ih =>
    intro w L v ps h hrb hin hlen hok hmay
    have HRB := Lib.hid hrb
    have HIN := Lib.hid hin
    have HIH := Lib.hid ih
    have HLEN := Lib.hid hlen
    have HOK := Lib.hid hok
    have HMAY := Lib.hid hmay
    have hts := hin.fit.ts
    have hBw : B ≤ w.heap.size := by have := hrb.row.le; have := hrb.row.b0le; omega
    clear hrb hin ih hlen hok hmay
    unfold Tm.val Tm.vals
    go_enter Try.func32, Try.ntmps32
    go_wp2_with fail
    obtain ⟨wA, hwA⟩ : ∃ wA, wA = w.alloc (t.box h) := ⟨_, rfl⟩
    have HBA := Lib.hid (show Below w.heap.size w wA from hwA ▸ below_one _ _)
    have HBX := Lib.hid (show wA.heap[w.heap.size]? = some (t.box h) from hwA ▸ World.alloc_heap_new w _)
    have HRA := Lib.hid (HRB.out.below HBA.out)
    have hfd := RFind_any HRA.out t h (Tm.In.below (HBA.out.mono hBw) _ _ HIN.out) (by have := HLEN.out; have := t.size_pos; omega) HOK.out
    unfold Tm.box Tm.vals at hwA
    rw [← hwA]
    clear hwA
    unfold Tm.val Tm.vals at hfd
    by_cases hm : t ∈ L
    · rw [if_pos hm, decide_eq_true hm] at hfd
      have HFD := Lib.hid hfd
      have HM := Lib.hid hm
      obtain ⟨n, hn⟩ : ∃ n, n = num L t := ⟨_, rfl⟩
      rw [← hn] at HFD
      have HN := Lib.hid hn
      clear hfd hm hn
      refine HFD.out.mono ?_
      rintro e w1 ⟨rfl, b1⟩
      have HE : Hid (RPost B b0 w bb t L v (.returned (.int .i64 n)) w1) := Lib.hid ⟨v, ps, by rw [ins_same t L HOK.out HM.out, HN.out], by rw [ins_same t L HOK.out HM.out]; exact HRA.out.below b1, fun q hq => Or.inl hq, RanS.of_below (Trm.go HBA.out b1)⟩
      clear b1 HFD
      go_wp2_with fail
      go_ret
      exact HE.out
    · rw [if_neg hm, decide_eq_false hm] at hfd
      have HFD := Lib.hid hfd
      have HM := Lib.hid hm
      clear hfd hm
      refine HFD.out.mono ?_
      rintro e w1 ⟨rfl, b1⟩
      have HB1 := Lib.hid b1
      clear b1 HFD
      obtain ⟨c0, c1, c2, c3, c4⟩ := Tm.cells (Lvl.keep HB1.out HBX.out)
      go_wp2_with fail
      go_loopw [7] (fun i wr => PRel B b0 bb w (t.box h) t L v i wr) (fun i _ => t.ts.length - (intOf i).toNat)
      case atStart => exact ⟨0, v, ps, rfl, by omega, (by rw [List.take_zero, insL]; exact HRA.out.below HB1.out), fun q hq => Or.inl hq, RanS.of_below (Trm.go HBA.out HB1.out), Lvl.keep HB1.out HBX.out⟩
      case round =>
        obtain ⟨k, vk, pk, rfl, hk, hrw, hov, hran, hb⟩ := hrel
        have HRW := Lib.hid hrw
        have HOV := Lib.hid hov
        have HRAN := Lib.hid hran
        have HBXr := Lib.hid hb
        have hwl : w.heap.size < wr.heap.size := (Array.getElem?_eq_some_iff.1 hb).1
        have HBB := Lib.hid (rb_low HRB.out hran)
        have hbw : bb < w.heap.size := (Array.getElem?_eq_some_iff.1 HRB.out.box).1
        have HOKk := Lib.hid (insL_ok (ts := t.ts.take k) HOK.out (fun x hx => may_part HMAY.out (List.mem_of_mem_take hx)))
        clear hrw hov hran c0 c1 c2 c3 c4
        obtain ⟨c0, c1, c2, c3, c4⟩ := Tm.cells hb
        clear hb
        by_cases hlt : k < t.ts.length
        · obtain ⟨b, off, hao, hbB, hd, hc, hi⟩ := (Tm.In.below HBB.out _ _ HIN.out).kid k hlt
          obtain ⟨k0, k1, k2, k3, k4⟩ := hc
          rw [hao] at c4
          have HX := Lib.hid (HIH.out _ (List.getElem_mem hlt) wr _ vk pk hd HRW.out hi (by
            have h1 := insL_len (t.ts.take k) L
            have h2 := sizeL_take hlt
            have h3 := HLEN.out
            rw [Tm.size_eq t] at h3
            omega) HOKk.out (may_part HMAY.out (List.getElem_mem hlt)))
          have HIT := Lib.hid (insL_take hlt L)
          clear hi hao
          generalize t.ts[k] = x at k0 k1 k2 k3 k4 HX HIT
          unfold Tm.val Tm.vals at HX
          have HLT := Lib.hid hlt
          go_wp2_with fail
          refine HX.out.mono ?_
          rintro e w2 ⟨v1, ps1, rfl, hw1, hv1, hr1⟩
          rw [← HIT.out] at hw1
          have hnw : ¬ (w.heap.size = bb ∨ vk.ownBlock = some w.heap.size) := fun e => by
            rcases e with e | e
            · omega
            · rcases HOV.out _ e with h1 | h1
              · have := (HRB.out.row.row.lt _ h1).2; omega
              · omega
          have HNX : Hid (PRel B b0 bb w (t.box h) t L v (.int .i64 ((k : Int) + 1)) w2) := Lib.hid ⟨k + 1, v1, ps1, by go_num, HLT.out, hw1, fun q hq => by
              rcases hv1 q hq with h1 | h1
              · exact HOV.out q h1
              · exact Or.inr (by omega), ranS_go HRAN.out hr1 (fun q hq => by
                rcases hq with hq | hq
                · exact Or.inl (Or.inl hq)
                · exact (HOV.out q hq).imp Or.inr (fun h => by omega)), hr1.keep HBXr.out hnw⟩
          have hwk : IntKind.i64.wrap ((k : Int) + 1) = (k : Int) + 1 := IntWalk.i64_in _ (by omega)
          clear hw1 hv1 hr1 hnw HX HIT k0 k1 k2 k3 k4
          go_wp2_with fail
          go_roundw
          case rel => exact HNX.out
          case measure => simp [intOf]; omega
        · have hpl := HRW.out.row.len
          have hrow := HRW.out
          rw [List.take_of_length_le (by omega)] at hrow
          obtain ⟨M, hM⟩ : ∃ M, M = insL t.ts L := ⟨_, rfl⟩
          rw [← hM] at hrow
          have HM2 := Lib.hid hM
          have HRW2 := Lib.hid hrow
          have hpm : (pk.length : Int) ≤ 1000000 := by
            have h1 := insL_len t.ts L
            have h2 := HLEN.out
            have h3 := hrow.row.len
            rw [Tm.size_eq t] at h2
            rw [hM] at h3
            omega
          obtain ⟨ao, cp, rfl⟩ : ∃ ao cp, vk = .slice ao pk.length cp := by
            rcases hrow.row.row.2 with ⟨hv, h0⟩ | ⟨g, cap, cur, hv, _⟩
            · exact ⟨none, 0, by rw [hv, h0]⟩
            · exact ⟨_, cap, hv⟩
          have HSX := Lib.hid (fun (W : World) (hW : W.heap[w.heap.size]? = some (t.box h)) => (show W.cell? ⟨w.heap.size, 0, none⟩ = some (.int .u8 t.k) ∧ W.cell? ⟨w.heap.size, 1, none⟩ = some (.int .i64 t.n) ∧ W.cell? ⟨w.heap.size, 2, none⟩ = some (.string t.s) ∧ W.cell? ⟨w.heap.size, 3, none⟩ = some (.slice h.lo t.ls.length h.lc) ∧ W.cell? ⟨w.heap.size, 4, none⟩ = some (.slice h.to t.ts.length h.tc) from by
            obtain ⟨c0, c1, c2, c3, c4⟩ := Tm.cells hW
            exact ⟨c0, c1, c2, c3, c4⟩))
          have HNW : Hid ((Value.slice ao pk.length cp).ownBlock ≠ some w.heap.size) := Lib.hid (fun e => by
            rcases HOV.out _ e with h1 | h1
            · have := (HRB.out.row.row.lt _ h1).2; omega
            · omega)
          have HBW : Hid (w.heap.size ≠ bb) := Lib.hid (by omega)
          have d0 := one_cell HRW2.out.box
          have hbr : bb < wr.heap.size := by omega
          obtain ⟨i0, hi, hz0, hz1, hz2⟩ := info_parts infoT
          have hq1 : Hid (pk.length + 1 ≤ maxLen) := Lib.hid (by unfold maxLen; omega)
          have hq2 : Hid ((pk.length + 1) * 80 ≤ 140737488355328) := Lib.hid (by omega)
          have hlp : ((pk.length : Int) < (pk.length : Int) + 1) = True := eq_true (by omega)
          clear hM hrow hpl
          go_upto_region 8 with fail
          refine wp_region_held_drew (S := fun w' => w'.cell? ⟨w.heap.size, 0, none⟩ = some (.int .u8 t.k) ∧ w'.cell? ⟨w.heap.size, 1, none⟩ = some (.int .i64 t.n) ∧ w'.cell? ⟨w.heap.size, 2, none⟩ = some (.string t.s) ∧ w'.cell? ⟨w.heap.size, 3, none⟩ = some (.slice h.lo t.ls.length h.lc) ∧ w'.cell? ⟨w.heap.size, 4, none⟩ = some (.slice h.to t.ts.length h.tc)) (by kernel_rfl) (HSX.out _ HBXr.out) (fun hHeld => ?_)
          refine wpAnyH_take (i := 0) (v := ?vz1x0) rfl (by kernel_rfl) (by kernel_rfl) (by kernel_rfl) (fun _ _ _ h => h) (Or.inl ⟨by rfl, ?hyz1x0⟩) (by assumption) ?restz1x0
          case hyz1x0 => (intro w' hSw; (try dsimp only at hSw); go_simp <;> with_reducible rfl)
          try simp only [List.getElem_toArray, List.getElem_cons_zero, Act.put, List.setIfInBounds_toArray, List.set_cons_zero, List.set_cons_succ]
          refine wpAnyH_take (i := 1) (v := ?vz2x1) rfl (by kernel_rfl) (by kernel_rfl) (by kernel_rfl) (fun _ _ _ h => h) (Or.inl ⟨by rfl, ?hyz2x1⟩) (by assumption) ?restz2x1
          case hyz2x1 => (intro w' hSw; (try dsimp only at hSw); go_simp <;> with_reducible rfl)
          try simp only [List.getElem_toArray, List.getElem_cons_succ, List.getElem_cons_zero, Act.put, List.setIfInBounds_toArray, List.set_cons_zero, List.set_cons_succ]
          refine wpAnyH_take (i := 2) (v := ?vz3x2) rfl (by kernel_rfl) (by kernel_rfl) (by kernel_rfl) (fun _ _ _ h => h) (Or.inl ⟨by rfl, ?hyz3x2⟩) (by assumption) ?restz3x2
          case hyz3x2 => (intro w' hSw; (try dsimp only at hSw); go_simp <;> with_reducible rfl)
          try simp only [List.getElem_toArray, List.getElem_cons_succ, List.getElem_cons_zero, Act.put, List.setIfInBounds_toArray, List.set_cons_zero, List.set_cons_succ]
          refine wpAnyH_take (i := 4) (v := ?vz4x4) rfl (by kernel_rfl) (by kernel_rfl) (by kernel_rfl) (fun _ _ _ h => h) (Or.inl ⟨by rfl, ?hyz4x4⟩) (by assumption) ?restz4x4
          case hyz4x4 => (intro w' hSw; (try dsimp only at hSw); go_simp <;> with_reducible rfl)
          try simp only [List.getElem_toArray, List.getElem_cons_succ, List.getElem_cons_zero, Act.put, List.setIfInBounds_toArray, List.set_cons_zero, List.set_cons_succ]
          refine wpAnyH_ready (rs := [3, 6]) (by kernel_rfl) (by simp) ?_
          refine AllReadyH.cons rfl (fun K hK => ?_) (AllReadyH.cons rfl (fun K hK => ?_) AllReadyH.nil)
          · go_simp
            refine hK.out _ _ (HSX.out _ HBXr.out) (fun hHeld => ?_)
            clear hK K
            try simp only [List.getElem_toArray, List.getElem_cons_succ, List.getElem_cons_zero, Act.put, List.setIfInBounds_toArray, List.set_cons_zero, List.set_cons_succ]
            refine wpAnyH_take (i := 5) (v := ?vz7x5) rfl (by kernel_rfl) (by kernel_rfl) (by kernel_rfl) (fun _ _ _ h => h) (Or.inl ⟨by rfl, ?hyz7x5⟩) (by assumption) ?restz7x5
            case hyz7x5 => (intro w' hSw; (try dsimp only at hSw); go_simp <;> with_reducible rfl)
            try simp only [List.getElem_toArray, List.getElem_cons_succ, List.getElem_cons_zero, Act.put, List.setIfInBounds_toArray, List.set_cons_zero, List.set_cons_succ]
            refine wpAnyH_ready (rs := [6]) (by kernel_rfl) (by simp) ?_
            refine AllReadyH.cons rfl (fun K hK => ?_) AllReadyH.nil
            go_simp
            refine hK.out _ _ (HSX.out _ (keepA HBXr.out _)) (fun hHeld => ?_)
            clear hK K
            try simp only [List.getElem_toArray, List.getElem_cons_succ, List.getElem_cons_zero, Act.put, List.setIfInBounds_toArray, List.set_cons_zero, List.set_cons_succ]
            refine wpAnyH_ready (rs := [7]) (by kernel_rfl) (by simp) ?_
            refine AllReadyH.cons rfl (fun K hK => ?_) AllReadyH.nil
            refine step_append_lies _ (by rfl) _ _ _ (by rfl) b0 26 i0 _ 5 80 Try.underlying22 hi hz0 hz1 hz2 rfl (by decide) _ pk.length _ (by rfl) ((own_keepR HRW2.out.row.row (Below.refl _ _).drew).alloc _) ⟨wr.heap.size, 0, none⟩ 1 1 [.int .u8 0, .int .i64 0, .string ⟨#[]⟩, .slice none 0 0, .slice none 0 0] (by rfl) (by rfl) (World.news_of_block (cs := #[.int .u8 0, .int .i64 0, .string ⟨#[]⟩, .slice none 0 0, .slice none 0 0]) (t := 26) (fr := (0, 0)) (World.alloc_heap_new wr.drew _)) zero_one Nat.one_pos hq1.out hq2.out (by have := HRW2.out.row.b0le; (first | rw [drawn_size2] | rw [drawn_size]); omega) (wr.heap.size + 1) (by first | exact drawn_size2 _ _ | exact drawn_size _ _) ?_
            intro g1 cap1 w5 hown5 hgrow5 hat5 hlt5
            have HO5 := Lib.hid hown5
            have HG5 := Lib.hid (show (wr.drew.alloc (.cells #[.int .u8 0, .int .i64 0, .string ⟨#[]⟩, .slice none 0 0, .slice none 0 0] 26)).grownBy w5 (Value.slice ao pk.length cp).ownBlock from hgrow5)
            have HAT5 := Lib.hid hat5
            clear hown5 hgrow5 hat5
            have HGW : Hid (w.heap.size ≠ g1) := Lib.hid (fun e => by rcases HAT5.out with e2 | e2; exact HNW.out (by rw [e2, e]); omega)
            have HGB : Hid (bb ≠ g1) := Lib.hid (fun e => by rcases HAT5.out with e2 | e2; exact HRW2.out.apart (by rw [e2, e]); omega)
            have HT5 : Hid (w5.heap[w.heap.size]? = some (t.box h)) := Lib.hid ((HG5.out.block w.heap.size (by rw [World.size_alloc]; show w.heap.size < wr.heap.size + 1; omega) (fun e => HNW.out e.symm)).trans (keepA (show wr.drew.heap[w.heap.size]? = _ from HBXr.out) _))
            have HB5 : Hid (w5.heap[bb]? = some (.cells #[.slice ao pk.length cp] 33)) := Lib.hid ((HG5.out.block bb (by rw [World.size_alloc]; show bb < wr.heap.size + 1; omega) (fun e => HRW2.out.apart e.symm)).trans (keepA (show wr.drew.heap[bb]? = _ from HRW2.out.box) _))
            have HWL5 : Hid (w.heap.size < w5.heap.size) := Lib.hid (Array.getElem?_eq_some_iff.1 HT5.out).1
            have hy := fun (j : Nat) (u : Value) (hj : ([.int .u8 0, .int .i64 0, .string ⟨#[]⟩, .slice none 0 0, .slice none 0 0] : List Value)[j]? = some u) => HO5.out.cells (g := g1) rfl (pk.length * 5 + j) u (by rw [List.getElem?_append_right (by rw [flat_len]; omega), flat_len, Nat.add_sub_cancel_left]; exact hj)
            have y0 := hy 0 _ rfl
            have y1 := hy 1 _ rfl
            have y2 := hy 2 _ rfl
            have y3 := hy 3 _ rfl
            have y4 := hy 4 _ rfl
            rw [Addr.add_lit] at y0 y1 y2 y3 y4
            rw [Nat.zero_add] at y0 y1 y2 y3 y4
            rw [Nat.add_zero] at y0
            have f0 := HO5.out.frozenAt (pk.length * 5)
            have f1 := HO5.out.frozenAt (pk.length * 5 + 1)
            have f2 := HO5.out.frozenAt (pk.length * 5 + 2)
            have f3 := HO5.out.frozenAt (pk.length * 5 + 3)
            have f4 := HO5.out.frozenAt (pk.length * 5 + 4)
            have x0 := one_cell HB5.out
            have fx := one_free HB5.out
            have hgb1 := HGB.out
            have hgb2 : g1 ≠ bb := fun e => HGB.out e.symm
            clear hy
            refine hK.out _ _ (HSX.out _ HT5.out) (fun hHeld => ?_)
            clear hK K
            try simp only [List.getElem_toArray, List.getElem_cons_succ, List.getElem_cons_zero, Act.put, List.setIfInBounds_toArray, List.set_cons_zero, List.set_cons_succ]
            refine wpAnyH_take (i := 8) (v := ?vz8x8) rfl (by kernel_rfl) (by kernel_rfl) (by kernel_rfl) (fun _ _ _ h => h) (Or.inl ⟨by rfl, ?hyz8x8⟩) (by assumption) ?restz8x8
            case hyz8x8 => (intro w' hSw; (try dsimp only at hSw); go_simp <;> with_reducible rfl)
            try simp only [List.getElem_toArray, List.getElem_cons_succ, List.getElem_cons_zero, Act.put, List.setIfInBounds_toArray, List.set_cons_zero, List.set_cons_succ]
            refine wpAnyH_take (i := 10) (v := ?vz8x8a) rfl (by kernel_rfl) (by kernel_rfl) (by kernel_rfl) (fun _ _ _ h => h) (Or.inl ⟨by rfl, ?hyvz8x8a⟩) (by assumption) ?restvz8x8a
            case hyvz8x8a => (intro w' hSw; (try dsimp only at hSw); go_simp <;> with_reducible rfl)
            try simp only [List.getElem_toArray, List.getElem_cons_succ, List.getElem_cons_zero, Act.put, List.setIfInBounds_toArray, List.set_cons_zero, List.set_cons_succ]
            refine wpAnyH_take (i := 11) (v := ?vz8x8b) rfl (by kernel_rfl) (by kernel_rfl) (by kernel_rfl) (fun _ _ _ h => h) (Or.inl ⟨by rfl, ?hyvz8x8b⟩) (by assumption) ?restvz8x8b
            case hyvz8x8b => (intro w' hSw; (try dsimp only at hSw); go_simp <;> with_reducible rfl)
            try simp only [List.getElem_toArray, List.getElem_cons_succ, List.getElem_cons_zero, Act.put, List.setIfInBounds_toArray, List.set_cons_zero, List.set_cons_succ]
            refine wpAnyH_ready (rs := [9, 12]) (by kernel_rfl) (by simp) ?_
            refine AllReadyH.cons rfl (fun K hK => ?_) (AllReadyH.cons rfl (fun K hK => ?_) AllReadyH.nil)
            · go_simp
              refine hK.out _ _ (HSX.out _ (((putO_ran w5 g1 (pk.length * 5) (.int .u8 t.k) (.int .i64 t.n) (.string t.s) (.slice h.lo t.ls.length h.lc) (.slice h.to t.ts.length h.tc)).block w.heap.size HWL5.out HGW.out).trans HT5.out)) (fun hHeld => ?_)
              clear hK K
              try simp only [List.getElem_toArray, List.getElem_cons_succ, List.getElem_cons_zero, Act.put, List.setIfInBounds_toArray, List.set_cons_zero, List.set_cons_succ]
              refine wpAnyH_ready (rs := [12]) (by kernel_rfl) (by simp) ?_
              refine AllReadyH.cons rfl (fun K hK => ?_) AllReadyH.nil
              go_simp
              refine hK.out _ _ (HSX.out _ ((RowKit.Below.heap_setCell _ _ _ _ HBW.out).trans (((putO_ran w5 g1 (pk.length * 5) (.int .u8 t.k) (.int .i64 t.n) (.string t.s) (.slice h.lo t.ls.length h.lc) (.slice h.to t.ts.length h.tc)).block w.heap.size HWL5.out HGW.out).trans HT5.out))) (fun hHeld => ?_)
              clear hK K
              try simp only [List.getElem_toArray, List.getElem_cons_succ, List.getElem_cons_zero, Act.put, List.setIfInBounds_toArray, List.set_cons_zero, List.set_cons_succ]
              refine wpAnyH_done (by kernel_rfl) ?_ _
              obtain ⟨w6, hw6⟩ : ∃ w6 : World, w6 = (putO w5 g1 (pk.length * 5) (.int .u8 t.k) (.int .i64 t.n) (.string t.s) (.slice h.lo t.ls.length h.lc) (.slice h.to t.ts.length h.tc)).setCell ⟨bb, 0, none⟩ (.slice (some ⟨g1, 0, none⟩) (pk.length + 1) cap1) := ⟨_, rfl⟩
              have HADD := Lib.hid (RPost.add (w6 := w6) HRB.out HIN.out HM2.out HM.out HRAN.out HOV.out HRW2.out (Below.refl _ _).drew HO5.out HG5.out HAT5.out (Or.inl hw6))
              unfold putO at hw6
              rw [← hw6]
              clear hw6
              have d6 := one_cell HADD.out.2
              clear y0 y1 y2 y3 y4 f0 f1 f2 f3 f4 x0 fx
              have hwl1 : IntKind.i64.wrap (((pk.length + 1 : Nat) : Int) - 1) = (pk.length : Int) := by rw [IntWalk.i64_in _ (by omega)]; omega
              have hwl2 : IntKind.i64.wrap ((pk.length : Int) + 1 - 1) = (pk.length : Int) := by rw [IntWalk.i64_in _ (by omega)]; omega
              go_wp2_with fail
              go_ret
              exact HADD.out.1
            · go_simp
              refine hK.out _ _ (HSX.out _ ((RowKit.Below.heap_setCell _ _ _ _ HBW.out).trans HT5.out)) (fun hHeld => ?_)
              clear hK K
              try simp only [List.getElem_toArray, List.getElem_cons_succ, List.getElem_cons_zero, Act.put, List.setIfInBounds_toArray, List.set_cons_zero, List.set_cons_succ]
              refine wpAnyH_ready (rs := [9]) (by kernel_rfl) (by simp) ?_
              refine AllReadyH.cons rfl (fun K hK => ?_) AllReadyH.nil
              go_simp
              refine hK.out _ _ (HSX.out _ (((putO_ran (w5.setCell ⟨bb, 0, none⟩ (.slice (some ⟨g1, 0, none⟩) (pk.length + 1) cap1)) g1 (pk.length * 5) (.int .u8 t.k) (.int .i64 t.n) (.string t.s) (.slice h.lo t.ls.length h.lc) (.slice h.to t.ts.length h.tc)).block w.heap.size (by have := HWL5.out; simpa [World.setCell] using this) HGW.out).trans ((RowKit.Below.heap_setCell _ _ _ _ HBW.out).trans HT5.out))) (fun hHeld => ?_)
              clear hK K
              try simp only [List.getElem_toArray, List.getElem_cons_succ, List.getElem_cons_zero, Act.put, List.setIfInBounds_toArray, List.set_cons_zero, List.set_cons_succ]
              refine wpAnyH_done (by kernel_rfl) ?_ _
              obtain ⟨w6, hw6⟩ : ∃ w6 : World, w6 = putO (w5.setCell ⟨bb, 0, none⟩ (.slice (some ⟨g1, 0, none⟩) (pk.length + 1) cap1)) g1 (pk.length * 5) (.int .u8 t.k) (.int .i64 t.n) (.string t.s) (.slice h.lo t.ls.length h.lc) (.slice h.to t.ts.length h.tc) := ⟨_, rfl⟩
              have HADD := Lib.hid (RPost.add (w6 := w6) HRB.out HIN.out HM2.out HM.out HRAN.out HOV.out HRW2.out (Below.refl _ _).drew HO5.out HG5.out HAT5.out (Or.inr hw6))
              unfold putO at hw6
              rw [← hw6]
              clear hw6
              have d6 := one_cell HADD.out.2
              clear y0 y1 y2 y3 y4 f0 f1 f2 f3 f4 x0 fx
              have hwl1 : IntKind.i64.wrap (((pk.length + 1 : Nat) : Int) - 1) = (pk.length : Int) := by rw [IntWalk.i64_in _ (by omega)]; omega
              have hwl2 : IntKind.i64.wrap ((pk.length : Int) + 1 - 1) = (pk.length : Int) := by rw [IntWalk.i64_in _ (by omega)]; omega
              go_wp2_with fail
              go_ret
              exact HADD.out.1
          · go_simp
            refine hK.out _ _ (HSX.out _ (keepA HBXr.out _)) (fun hHeld => ?_)
            clear hK K
            try simp only [List.getElem_toArray, List.getElem_cons_succ, List.getElem_cons_zero, Act.put, List.setIfInBounds_toArray, List.set_cons_zero, List.set_cons_succ]
            refine wpAnyH_ready (rs := [3]) (by kernel_rfl) (by simp) ?_
            refine AllReadyH.cons rfl (fun K hK => ?_) AllReadyH.nil
            have da := one_cell (keepA (show wr.drew.heap[bb]? = _ from HRW2.out.box) (.cells #[.int .u8 0, .int .i64 0, .string ⟨#[]⟩, .slice none 0 0, .slice none 0 0] 26))
            go_simp
            refine hK.out _ _ (HSX.out _ (keepA HBXr.out _)) (fun hHeld => ?_)
            clear hK K
            try simp only [List.getElem_toArray, List.getElem_cons_succ, List.getElem_cons_zero, Act.put, List.setIfInBounds_toArray, List.set_cons_zero, List.set_cons_succ]
            refine wpAnyH_take (i := 5) (v := ?vz9x5) rfl (by kernel_rfl) (by kernel_rfl) (by kernel_rfl) (fun _ _ _ h => h) (Or.inl ⟨by rfl, ?hyz9x5⟩) (by assumption) ?restz9x5
            case hyz9x5 => (intro w' hSw; (try dsimp only at hSw); go_simp <;> with_reducible rfl)
            try simp only [List.getElem_toArray, List.getElem_cons_succ, List.getElem_cons_zero, Act.put, List.setIfInBounds_toArray, List.set_cons_zero, List.set_cons_succ]
            refine wpAnyH_ready (rs := [7]) (by kernel_rfl) (by simp) ?_
            refine AllReadyH.cons rfl (fun K hK => ?_) AllReadyH.nil
            refine step_append_lies _ (by rfl) _ _ _ (by rfl) b0 26 i0 _ 5 80 Try.underlying22 hi hz0 hz1 hz2 rfl (by decide) _ pk.length _ (by rfl) ((own_keepR HRW2.out.row.row (Below.refl _ _).drew).alloc _) ⟨wr.heap.size, 0, none⟩ 1 1 [.int .u8 0, .int .i64 0, .string ⟨#[]⟩, .slice none 0 0, .slice none 0 0] (by rfl) (by rfl) (World.news_of_block (cs := #[.int .u8 0, .int .i64 0, .string ⟨#[]⟩, .slice none 0 0, .slice none 0 0]) (t := 26) (fr := (0, 0)) (World.alloc_heap_new wr.drew _)) zero_one Nat.one_pos hq1.out hq2.out (by have := HRW2.out.row.b0le; (first | rw [drawn_size2] | rw [drawn_size]); omega) (wr.heap.size + 1) (by first | exact drawn_size2 _ _ | exact drawn_size _ _) ?_
            intro g1 cap1 w5 hown5 hgrow5 hat5 hlt5
            have HO5 := Lib.hid hown5
            have HG5 := Lib.hid (show (wr.drew.alloc (.cells #[.int .u8 0, .int .i64 0, .string ⟨#[]⟩, .slice none 0 0, .slice none 0 0] 26)).grownBy w5 (Value.slice ao pk.length cp).ownBlock from hgrow5)
            have HAT5 := Lib.hid hat5
            clear hown5 hgrow5 hat5
            have HGW : Hid (w.heap.size ≠ g1) := Lib.hid (fun e => by rcases HAT5.out with e2 | e2; exact HNW.out (by rw [e2, e]); omega)
            have HGB : Hid (bb ≠ g1) := Lib.hid (fun e => by rcases HAT5.out with e2 | e2; exact HRW2.out.apart (by rw [e2, e]); omega)
            have HT5 : Hid (w5.heap[w.heap.size]? = some (t.box h)) := Lib.hid ((HG5.out.block w.heap.size (by rw [World.size_alloc]; show w.heap.size < wr.heap.size + 1; omega) (fun e => HNW.out e.symm)).trans (keepA (show wr.drew.heap[w.heap.size]? = _ from HBXr.out) _))
            have HB5 : Hid (w5.heap[bb]? = some (.cells #[.slice ao pk.length cp] 33)) := Lib.hid ((HG5.out.block bb (by rw [World.size_alloc]; show bb < wr.heap.size + 1; omega) (fun e => HRW2.out.apart e.symm)).trans (keepA (show wr.drew.heap[bb]? = _ from HRW2.out.box) _))
            have HWL5 : Hid (w.heap.size < w5.heap.size) := Lib.hid (Array.getElem?_eq_some_iff.1 HT5.out).1
            have hy := fun (j : Nat) (u : Value) (hj : ([.int .u8 0, .int .i64 0, .string ⟨#[]⟩, .slice none 0 0, .slice none 0 0] : List Value)[j]? = some u) => HO5.out.cells (g := g1) rfl (pk.length * 5 + j) u (by rw [List.getElem?_append_right (by rw [flat_len]; omega), flat_len, Nat.add_sub_cancel_left]; exact hj)
            have y0 := hy 0 _ rfl
            have y1 := hy 1 _ rfl
            have y2 := hy 2 _ rfl
            have y3 := hy 3 _ rfl
            have y4 := hy 4 _ rfl
            rw [Addr.add_lit] at y0 y1 y2 y3 y4
            rw [Nat.zero_add] at y0 y1 y2 y3 y4
            rw [Nat.add_zero] at y0
            have f0 := HO5.out.frozenAt (pk.length * 5)
            have f1 := HO5.out.frozenAt (pk.length * 5 + 1)
            have f2 := HO5.out.frozenAt (pk.length * 5 + 2)
            have f3 := HO5.out.frozenAt (pk.length * 5 + 3)
            have f4 := HO5.out.frozenAt (pk.length * 5 + 4)
            have x0 := one_cell HB5.out
            have fx := one_free HB5.out
            have hgb1 := HGB.out
            have hgb2 : g1 ≠ bb := fun e => HGB.out e.symm
            clear hy
            refine hK.out _ _ (HSX.out _ HT5.out) (fun hHeld => ?_)
            clear hK K
            try simp only [List.getElem_toArray, List.getElem_cons_succ, List.getElem_cons_zero, Act.put, List.setIfInBounds_toArray, List.set_cons_zero, List.set_cons_succ]
            refine wpAnyH_take (i := 8) (v := ?vz10x8) rfl (by kernel_rfl) (by kernel_rfl) (by kernel_rfl) (fun _ _ _ h => h) (Or.inl ⟨by rfl, ?hyz10x8⟩) (by assumption) ?restz10x8
            case hyz10x8 => (intro w' hSw; (try dsimp only at hSw); go_simp <;> with_reducible rfl)
            try simp only [List.getElem_toArray, List.getElem_cons_succ, List.getElem_cons_zero, Act.put, List.setIfInBounds_toArray, List.set_cons_zero, List.set_cons_succ]
            refine wpAnyH_take (i := 10) (v := ?vz10x8a) rfl (by kernel_rfl) (by kernel_rfl) (by kernel_rfl) (fun _ _ _ h => h) (Or.inl ⟨by rfl, ?hyvz10x8a⟩) (by assumption) ?restvz10x8a
            case hyvz10x8a => (intro w' hSw; (try dsimp only at hSw); go_simp <;> with_reducible rfl)
            try simp only [List.getElem_toArray, List.getElem_cons_succ, List.getElem_cons_zero, Act.put, List.setIfInBounds_toArray, List.set_cons_zero, List.set_cons_succ]
            refine wpAnyH_take (i := 11) (v := ?vz10x8b) rfl (by kernel_rfl) (by kernel_rfl) (by kernel_rfl) (fun _ _ _ h => h) (Or.inl ⟨by rfl, ?hyvz10x8b⟩) (by assumption) ?restvz10x8b
            case hyvz10x8b => (intro w' hSw; (try dsimp only at hSw); go_simp <;> with_reducible rfl)
            try simp only [List.getElem_toArray, List.getElem_cons_succ, List.getElem_cons_zero, Act.put, List.setIfInBounds_toArray, List.set_cons_zero, List.set_cons_succ]
            refine wpAnyH_ready (rs := [9, 12]) (by kernel_rfl) (by simp) ?_
            refine AllReadyH.cons rfl (fun K hK => ?_) (AllReadyH.cons rfl (fun K hK => ?_) AllReadyH.nil)
            · go_simp
              refine hK.out _ _ (HSX.out _ (((putO_ran w5 g1 (pk.length * 5) (.int .u8 t.k) (.int .i64 t.n) (.string t.s) (.slice h.lo t.ls.length h.lc) (.slice h.to t.ts.length h.tc)).block w.heap.size HWL5.out HGW.out).trans HT5.out)) (fun hHeld => ?_)
              clear hK K
              try simp only [List.getElem_toArray, List.getElem_cons_succ, List.getElem_cons_zero, Act.put, List.setIfInBounds_toArray, List.set_cons_zero, List.set_cons_succ]
              refine wpAnyH_ready (rs := [12]) (by kernel_rfl) (by simp) ?_
              refine AllReadyH.cons rfl (fun K hK => ?_) AllReadyH.nil
              go_simp
              refine hK.out _ _ (HSX.out _ ((RowKit.Below.heap_setCell _ _ _ _ HBW.out).trans (((putO_ran w5 g1 (pk.length * 5) (.int .u8 t.k) (.int .i64 t.n) (.string t.s) (.slice h.lo t.ls.length h.lc) (.slice h.to t.ts.length h.tc)).block w.heap.size HWL5.out HGW.out).trans HT5.out))) (fun hHeld => ?_)
              clear hK K
              try simp only [List.getElem_toArray, List.getElem_cons_succ, List.getElem_cons_zero, Act.put, List.setIfInBounds_toArray, List.set_cons_zero, List.set_cons_succ]
              refine wpAnyH_done (by kernel_rfl) ?_ _
              obtain ⟨w6, hw6⟩ : ∃ w6 : World, w6 = (putO w5 g1 (pk.length * 5) (.int .u8 t.k) (.int .i64 t.n) (.string t.s) (.slice h.lo t.ls.length h.lc) (.slice h.to t.ts.length h.tc)).setCell ⟨bb, 0, none⟩ (.slice (some ⟨g1, 0, none⟩) (pk.length + 1) cap1) := ⟨_, rfl⟩
              have HADD := Lib.hid (RPost.add (w6 := w6) HRB.out HIN.out HM2.out HM.out HRAN.out HOV.out HRW2.out (Below.refl _ _).drew HO5.out HG5.out HAT5.out (Or.inl hw6))
              unfold putO at hw6
              rw [← hw6]
              clear hw6
              have d6 := one_cell HADD.out.2
              clear y0 y1 y2 y3 y4 f0 f1 f2 f3 f4 x0 fx
              have hwl1 : IntKind.i64.wrap (((pk.length + 1 : Nat) : Int) - 1) = (pk.length : Int) := by rw [IntWalk.i64_in _ (by omega)]; omega
              have hwl2 : IntKind.i64.wrap ((pk.length : Int) + 1 - 1) = (pk.length : Int) := by rw [IntWalk.i64_in _ (by omega)]; omega
              go_wp2_with fail
              go_ret
              exact HADD.out.1
            · go_simp
              refine hK.out _ _ (HSX.out _ ((RowKit.Below.heap_setCell _ _ _ _ HBW.out).trans HT5.out)) (fun hHeld => ?_)
              clear hK K
              try simp only [List.getElem_toArray, List.getElem_cons_succ, List.getElem_cons_zero, Act.put, List.setIfInBounds_toArray, List.set_cons_zero, List.set_cons_succ]
              refine wpAnyH_ready (rs := [9]) (by kernel_rfl) (by simp) ?_
              refine AllReadyH.cons rfl (fun K hK => ?_) AllReadyH.nil
              go_simp
              refine hK.out _ _ (HSX.out _ (((putO_ran (w5.setCell ⟨bb, 0, none⟩ (.slice (some ⟨g1, 0, none⟩) (pk.length + 1) cap1)) g1 (pk.length * 5) (.int .u8 t.k) (.int .i64 t.n) (.string t.s) (.slice h.lo t.ls.length h.lc) (.slice h.to t.ts.length h.tc)).block w.heap.size (by have := HWL5.out; simpa [World.setCell] using this) HGW.out).trans ((RowKit.Below.heap_setCell _ _ _ _ HBW.out).trans HT5.out))) (fun hHeld => ?_)
              clear hK K
              try simp only [List.getElem_toArray, List.getElem_cons_succ, List.getElem_cons_zero, Act.put, List.setIfInBounds_toArray, List.set_cons_zero, List.set_cons_succ]
              refine wpAnyH_done (by kernel_rfl) ?_ _
              obtain ⟨w6, hw6⟩ : ∃ w6 : World, w6 = putO (w5.setCell ⟨bb, 0, none⟩ (.slice (some ⟨g1, 0, none⟩) (pk.length + 1) cap1)) g1 (pk.length * 5) (.int .u8 t.k) (.int .i64 t.n) (.string t.s) (.slice h.lo t.ls.length h.lc) (.slice h.to t.ts.length h.tc) := ⟨_, rfl⟩
              have HADD := Lib.hid (RPost.add (w6 := w6) HRB.out HIN.out HM2.out HM.out HRAN.out HOV.out HRW2.out (Below.refl _ _).drew HO5.out HG5.out HAT5.out (Or.inr hw6))
              unfold putO at hw6
              rw [← hw6]
              clear hw6
              have d6 := one_cell HADD.out.2
              clear y0 y1 y2 y3 y4 f0 f1 f2 f3 f4 x0 fx
              have hwl1 : IntKind.i64.wrap (((pk.length + 1 : Nat) : Int) - 1) = (pk.length : Int) := by rw [IntWalk.i64_in _ (by omega)]; omega
              have hwl2 : IntKind.i64.wrap ((pk.length : Int) + 1 - 1) = (pk.length : Int) := by rw [IntWalk.i64_in _ (by omega)]; omega
              go_wp2_with fail
              go_ret
              exact HADD.out.1
end Go.Proofs.Ytjicdmohnfcflaa

