/-
  battenref05.Copy: a term in memory of its own.
-/
import Derived.Test.YtjicdmohnfcflaaQArnTree
import Derived.Test.YtjicdmohnfcflaaQB7
namespace Go.Proofs.Ytjicdmohnfcflaa
open Go.RowKit Go.Shelf Go.Maps Lvl Trm Arn

namespace Arn
/-- No node has too many levels, and there are not too many nodes. -/
def NotBad (t : Tm) : Prop := ∃ l d, l ≤ 131072 ∧ 0 ≤ t.left badDeep l d
theorem NotBad.of {t : Tm} (h : t.deep = false) : NotBad t := ⟨131072, 8192, by omega, by
  have : decide (t.left badDeep 131072 8192 < 0) = false := h
  simp at this; omega⟩
theorem NotBad.size {t : Tm} (h : NotBad t) : t.size ≤ 131072 := by
  obtain ⟨l, d, hl, h⟩ := h
  have := t.left_size badDeep _ _ h
  omega
theorem leftL_each {bad : Tm → Bool} : ∀ {ts : List Tm} {l d : Int}, 0 ≤ l → 0 ≤ leftL bad ts l d → ∀ x ∈ ts, ∃ l', l' ≤ l ∧ 0 ≤ x.left bad l' d
  | [], _, _, _, _, x, hx => by simp at hx
  | t :: r, l, d, h0, h, x, hx => by
    rw [leftL] at h
    have h1 := t.left_ge bad l d
    split at h
    · omega
    · rcases List.mem_cons.1 hx with rfl | hx
      · exact ⟨l, by omega, by omega⟩
      · obtain ⟨l', h2, h3⟩ := leftL_each (by omega) h x hx
        exact ⟨l', by omega, h3⟩
theorem NotBad.part {t x : Tm} (h : NotBad t) (hx : x ∈ t.ts) : NotBad x := by
  obtain ⟨l, d, hl, h⟩ := h
  rw [Tm.left_eq] at h
  split at h
  · omega
  · rename_i hc
    obtain ⟨l', h2, h3⟩ := leftL_each (by omega) h x hx
    exact ⟨l', d - 1, by omega, h3⟩
theorem NotBad.ls {t : Tm} (h : NotBad t) : t.ls.length ≤ 20 := by
  obtain ⟨l, d, hl, h⟩ := h
  rw [Tm.left_eq] at h
  split at h
  · omega
  · rename_i hc
    have h1 : badDeep t = false := by
      cases hb : badDeep t
      · rfl
      · exact absurd (Or.inr (Or.inr hb)) hc
    unfold badDeep at h1
    simp at h1
    omega
theorem ts_size (ts : List Tm) : (ts.length : Int) ≤ sizeL ts := by
  induction ts with
  | nil => rw [sizeL]; simp
  | cons t r ih => rw [sizeL]; have := t.size_pos; simp; omega
theorem NotBad.ts {t : Tm} (h : NotBad t) : t.ts.length ≤ 131072 := by
  have h1 := h.size
  have h2 := ts_size t.ts
  rw [Tm.size_eq] at h1
  omega
theorem TRel.final2 {w : World} {t : Tm} {tb b0 : Nat} {lo : Option Addr} {lc j : Nat} {ps : List (Tm × Hd)} {vT : Value} {wr : World} (h : TRel w t tb b0 lo lc j ps vT wr) (hj : j = t.ts.length) (hm : t.Fit) (hn : t.ts.length ≤ 1000000) :
    ∃ to tc, vT = .slice to t.ts.length tc ∧ FirmS (fun z => z < w.heap.size + 1) wr t ⟨lo, lc, to, tc⟩ ∧ t.Sp wr (w.heap.size + 1) wr.heap.size ⟨lo, lc, to, tc⟩ := by
  have hlen := h.len
  obtain ⟨to, tc, hv, hf⟩ := firm_own (P := fun z => z < w.heap.size + 1) (k := t.k) (n := t.n) (s := t.s) (ls := t.ls) (lc := lc) h.own hm.k0 hm.k1 hm.n0 hm.n1 hm.s hm.ls h.row (fun a ha => by
    obtain ⟨l1, l2⟩ := h.low a ha
    have := h.tbw
    have := h.b0le
    exact ⟨by show ¬ a.block < _; omega, by omega⟩) (fun q hq => by have := h.tbw; have := h.tbl; omega) (fun p hp => (h.firm p hp).less (fun q _ hq => Or.inl (by have := h.tbw; have := h.tbl; omega))) (by omega)
  have e : ps.map (·.1) = t.ts := by rw [h.map, hj, List.take_length]
  have hs := sp_own (k := t.k) (n := t.n) (s := t.s) (ls := t.ls) (lo := lo) (lc := lc) (to := to) (tc := tc) h.own hv (show w.heap.size + 1 ≤ b0 by have := h.tbw; have := h.tbl; omega) h.sep (fun a ha => by have := h.low a ha; have := h.tbw; omega) h.soft h.row
  rw [e, ← Tm.eta t] at hf hs
  refine ⟨to, tc, by rw [hv, hlen, hj], hf, hs⟩
theorem below_grown5 {B : Nat} {wr w4 w5 : World} {vT : Value} {o : Obj} (b4 : Below wr.heap.size wr w4) (g5 : (w4.alloc o).grownBy w5 vT.ownBlock) (hlow : ∀ q, vT.ownBlock = some q → B ≤ q) (hB : B ≤ wr.heap.size) : Below B wr w5 := by
  have s4 := b4.size
  have s5 := g5.size
  rw [World.size_alloc] at s5
  exact ⟨g5.os.trans ((below_one w4 o).os.trans b4.os), g5.tape.trans ((below_one w4 o).tape.trans b4.tape), g5.output.trans ((below_one w4 o).output.trans b4.output), by omega, fun q hq => by
    rw [g5.block q (by rw [World.size_alloc]; omega) (fun e => by have := hlow q e.symm; omega), (below_one w4 o).block q (by omega), b4.block q (by omega)]⟩
theorem run_append_nil_none {w : World} (t ty e : TypeId) (i : TypeInfo) (ht : Try.prog.underlying t = some (.slice e)) (hi : Try.prog.info? e = some i) (c : Nat) :
    (Builtin.append_ #[t, t] ty #[.slice none 0 0, .slice none 0 c]).run Try.prog w = .ok (.slice none 0 0) w := by
  simp [Builtin.append_, run_underlying ht, sizeOf, typeInfo, hi, Builtin.lenOf, Builtin.firstCells]
theorem wpList_append_levels_nil {w0 : World} {ops : Array Oper} {rest : List Oper} {o : Oper} {a : Act} {Q : Exit → Act → World → Prop} (hgd : o.guard = none) (s x : Operand)
    (ho : o.op = .call { callee := .builtin .append, args := #[s, x], argTypes := #[24, 24] })
    (hs : a.eval s = .slice none 0 0) (ao : Option Addr) (cap : Nat) (ls : List Lv) (hx : a.eval x = .slice ao ls.length cap) (hl : ls.length ≤ 1000) (hr : LRow w0 ao ls)
    (h : ∀ v' w', RowPost w0 ls v' w' → Below w0.heap.size w0 w' → wpList Try.prog ops Q rest (a.put o.dst v') w') : wpList Try.prog ops Q (o :: rest) a w0 := by
  obtain ⟨i0, hi, hz0, hz1, hz2⟩ := info_parts infoL
  have ho0 : w0.ownsRow w0.heap.size 63 5 (.slice none 0 0) 0 [] := World.ownsRow_nil _ _ _ _
  cases ao with
  | some ad =>
    refine wpList_append_own w0 hgd s x 24 ho w0.heap.size 63 i0 _ 5 40 Try.underlying24 hi hz0 hz1 hz2 rfl (by decide) _ 0 [] hs ho0 ad ls.length cap (flatL ls) hx (flatL_len ls) ?_ (flatL_one ls) (by unfold maxLen; omega) (by omega) (Nat.le_refl _) ?_
    · intro j u hj
      have hjl : j < ls.length * 5 := by rw [← flatL_len]; exact (List.getElem?_eq_some_iff.1 hj).1
      obtain ⟨b, off, hao, _⟩ := hr.place 0 (by omega)
      cases hao
      rw [Addr.add_lit]
      refine flatL_cell (fun k hk => ?_) j u hj
      obtain ⟨b', off', hao', ha⟩ := hr.place k hk
      cases hao'
      exact ha
    · intro v' w' h1 h2 _
      have h3 : w'.ownsRow w0.heap.size 63 5 v' ls.length (flatL ls) := by simpa using h1
      exact h v' w' (row_of_own2 rfl h3) (below_own ho0 h2 (Nat.le_refl _))
  | none =>
    have hempty : ls = [] := by
      cases ls with
      | nil => rfl
      | cons y r =>
        obtain ⟨b, off, hao, _⟩ := hr.place 0 (by simp)
        cases hao
    subst hempty
    refine wpList_plain hgd fun K hK => ?_
    have hrun := run_append_nil_none (w := w0) 24 o.type 63 i0 Try.underlying24 hi cap
    have hx' : a.eval x = .slice none 0 cap := hx
    unfold Oper.wp
    simp [execOp, ho, resolve, invoke, builtin, hs, hx', hrun, Result.andThen]
    exact hK _ _ (h _ _ ⟨none, 0, rfl, ⟨fun k hk => absurd hk (by simp)⟩, fun x hx => by cases hx⟩ (Below.refl _ _))
end Arn

set_option maxRecDepth 100000 in
set_option maxHeartbeats 8000000 in
theorem Copy_any (t : Tm) : ∀ (w : World) (h : Hd), NotBad t → t.In w.heap.size w h → Calls Try.prog 7 #[t.val h] w (TreePost w t) := by
  induction t using Tm.ind with
  | h t ih =>
    intro w h hnb hin
    have HIH := Lib.hid ih
    have HNB := Lib.hid hnb
    have HIN := Lib.hid hin
    have hts := hnb.ts
    have hls := hnb.ls
    have HFIT := Lib.hid hin.fit
    clear ih hnb hin
    unfold Tm.val Tm.vals
    go_enter Try.func7, Try.ntmps7
    go_upto_region 2 with fail
    obtain ⟨wb, hwb⟩ : ∃ wb, wb = w.alloc (t.box h) := ⟨_, rfl⟩
    have hzb : wb.heap.size = w.heap.size + 1 := by rw [hwb]; simp
    have HBX := Lib.hid (show wb.heap[w.heap.size]? = some (t.box h) from hwb ▸ World.alloc_heap_new w _)
    have Bb := Lib.hid (show Below w.heap.size w wb from hwb ▸ below_one _ _)
    obtain ⟨W1, hW1⟩ : ∃ W1, W1 = (wb.alloc (.cells #[.int .u8 0, .int .i64 0, .string ⟨#[]⟩, .slice none 0 0, .slice none 0 0] 26)).alloc (.cells #[.int .u8 t.k, .int .i64 t.n, .string t.s, .slice none 0 0, .slice none 0 0] 26) := ⟨_, rfl⟩
    have B1 := Lib.hid (show Below wb.heap.size wb W1 from hW1 ▸ below_two _ _ _)
    have HR1 := Lib.hid (show W1.heap[wb.heap.size]? = some (.cells #[.int .u8 0, .int .i64 0, .string ⟨#[]⟩, .slice none 0 0, .slice none 0 0] 26) from hW1 ▸ new1of2 _ _ _)
    have HT1 := Lib.hid (show W1.heap[wb.heap.size + 1]? = some (.cells #[.int .u8 t.k, .int .i64 t.n, .string t.s, .slice none 0 0, .slice none 0 0] 26) from hW1 ▸ new2 _ _ _)
    have hz1' : W1.heap.size = wb.heap.size + 2 := by rw [hW1]; simp
    rw [hwb] at hW1
    unfold Tm.box Tm.vals at hW1
    rw [← hW1]
    clear hW1 hwb
    have HZ := Lib.hid (And.intro hzb hz1')
    have HIN1 := Lib.hid (Tm.In.below (show Below w.heap.size w W1 from Bb.out.trans (B1.out.mono (by omega))) _ _ HIN.out)
    have HBX1 := Lib.hid (Lvl.keep B1.out HBX.out)
    obtain ⟨tb, htb⟩ : ∃ tb, tb = wb.heap.size + 1 := ⟨_, rfl⟩
    rw [← htb] at HT1
    have HTBE := Lib.hid htb
    have htw : wb.heap.size + 1 = tb := htb.symm
    rw [show w.heap.size + 1 + 1 = tb by omega, show w.heap.size + 1 = wb.heap.size from hzb.symm]
    clear hzb hz1' htb htw
    obtain ⟨x0, x1, x2, x3, x4⟩ := five_cells HT1.out
    obtain ⟨f0, f1, f2, f3, f4⟩ := five_free HT1.out
    obtain ⟨c0, c1, c2, c3, c4⟩ := Tm.cells HBX1.out
    obtain ⟨i0, hi, hz0, hz1, hz2⟩ := info_parts infoLv
    have htl : tb < W1.heap.size := (Array.getElem?_eq_some_iff.1 HT1.out).1
    have HLV := Lib.hid HIN1.out.levels
    go_wp2_with (at_builtin; refine wpList_append_levels_nil (w0 := W1) rfl _ _ rfl rfl h.lo h.lc t.ls rfl (by omega) HLV.out ?_; rintro v' w2 ⟨lo, lc, rfl, hr2, hl2⟩ hb2; have HB2 := Lib.hid hb2; have HR2 := Lib.hid hr2; have HL2 := Lib.hid hl2; clear hb2 hr2 hl2; obtain ⟨x0', x1', x2', x3', x4'⟩ := five_cells (Lvl.keep HB2.out HT1.out); clear x0 x1 x2 x3 x4 f0 f1 f2 f3 f4; obtain ⟨f0, f1, f2, f3, f4⟩ := five_free (Lvl.keep HB2.out HT1.out))
    clear x0' x1' x2' x3' x4' f0 f1 f2 f3 f4 c0 c1 c2 c3 c4 hi hz0 hz1 hz2 i0
    obtain ⟨WT, hWT⟩ : ∃ WT, WT = w2.setCell ⟨tb, 3, none⟩ (.slice lo t.ls.length lc) := ⟨_, rfl⟩
    rw [← hWT]
    have HTW : Hid (wb.heap.size + 1 ≤ tb) := Lib.hid (Nat.le_of_eq HTBE.out.symm)
    have hsz : WT.heap.size = w2.heap.size := by rw [hWT]; simp [World.setCell]
    have HTB : Hid (WT.heap[tb]? = some (.cells #[.int .u8 t.k, .int .i64 t.n, .string t.s, .slice lo t.ls.length lc, .slice none 0 0] 26)) := Lib.hid (by
      rw [hWT]
      have := cells_set (i := 3) (Lvl.keep HB2.out HT1.out) (.slice lo t.ls.length lc)
      simpa using this)
    have HRB : Hid (WT.heap[wb.heap.size]? = some (.cells #[.int .u8 0, .int .i64 0, .string ⟨#[]⟩, .slice none 0 0, .slice none 0 0] 26)) := Lib.hid (by
      rw [hWT]
      exact cells_other (Lvl.keep HB2.out HR1.out) _ (by have := HTW.out; omega))
    have BT : Hid (Below wb.heap.size wb WT) := Lib.hid (by rw [hWT]; exact (Trm.go B1.out HB2.out).setCell (by show wb.heap.size ≤ tb; have := HTW.out; omega) _)
    have hszw := HB2.out.size
    have HST0 := Lib.hid (show TRel wb t tb WT.heap.size lo lc 0 [] (.slice none 0 0) WT from ⟨Nat.zero_le _, rfl, by simp, BT.out, HRB.out, HTB.out, World.ownsRow_nil _ _ _ _, fun p hp => by simp at hp, HTW.out, by omega, Nat.le_refl _, (by simp [Value.ownBlock]), fun a ha => by rw [hsz]; have := HL2.out a ha; omega, by
      rw [hWT]
      exact row_keep HR2.out fun a ha => RowKit.Below.heap_setCell _ _ _ _ (show a.block ≠ tb by have := HL2.out a ha; omega), fun a ha => by rw [hWT]; exact (HL2.out a ha).2.2.set _ _ _, Sep.nil⟩)
    have HZB := Lib.hid HZ.out.1
    have HKID := Lib.hid (fun (j : Nat) (hj : j < t.ts.length) => (show ∃ b off hd, h.to = some ⟨b, off, none⟩ ∧ b < w.heap.size ∧ TCells wb b (off + j * 5) t.ts[j] hd ∧ t.ts[j].In w.heap.size wb hd from by
      have hin2 := Tm.In.below Bb.out _ _ HIN.out
      obtain ⟨b, off, hao, hb, hd, hc, hi⟩ := RowIn.place (Tm.In_iff.1 hin2).2.2.2 j hj
      exact ⟨b, off, hd, hao, hb, by rw [Nat.zero_add] at hc; exact hc, hi⟩))
    clear hWT hsz hszw htl HZ HB2 HR2 HL2 HTB HRB BT B1 HR1 HT1 HIN1 HBX1 HLV HTBE HTW
    obtain ⟨b0, hb0⟩ : ∃ b0, b0 = WT.heap.size := ⟨_, rfl⟩
    rw [← hb0] at HST0
    clear hb0
    go_loopw [4] (fun i wr => ∃ (j : Nat) (ps : List (Tm × Hd)) (vT : Value), i = .int .i64 j ∧ TRel wb t tb b0 lo lc j ps vT wr) (fun i _ => t.ts.length - (intOf i).toNat)
    case atStart => exact ⟨0, [], _, rfl, HST0.out⟩
    case round =>
      obtain ⟨j, ps, vT, rfl, hst⟩ := hrel
      have HST := Lib.hid hst
      have hjl := hst.le
      clear hst HST0
      obtain ⟨c0, c1, c2, c3, c4⟩ := Tm.cells (Lvl.keep HST.out.bel HBX.out)
      by_cases hlt : j < t.ts.length
      · obtain ⟨b, off, hd, hto, hbw, htc, hyi⟩ := HKID.out j hlt
        have HTO := Lib.hid hto
        have HNBY := Lib.hid (HNB.out.part (List.getElem_mem hlt))
        have HIX := Lib.hid (fun (W : World) (hW : Below wr.heap.size wr W) => HIH.out _ (List.getElem_mem hlt) W hd HNBY.out (Tm.In.mono (show w.heap.size ≤ W.heap.size from by have := HST.out.bel.size; have := hW.size; have := HZB.out; omega) _ _ (Tm.In.below ((HST.out.bel.trans (hW.mono HST.out.bel.size)).mono (by have := HZB.out; omega)) _ _ hyi)))
        have HTBr := Lib.hid HST.out.blk
        have HOWr := Lib.hid HST.out.own
        have HB0r := Lib.hid HST.out.b0le
        have HTBL : Hid (tb < wr.heap.size) := Lib.hid (Array.getElem?_eq_some_iff.1 HST.out.blk).1
        have HNV := Lib.hid HST.out.apart
        have HTWr := Lib.hid HST.out.tbw
        have HTBLr := Lib.hid HST.out.tbl
        have hps := HST.out.len
        have hq1 : Hid (ps.length + 1 ≤ maxLen) := Lib.hid (by unfold maxLen; omega)
        have hq2 : Hid ((ps.length + 1) * 80 ≤ 140737488355328) := Lib.hid (by omega)
        obtain ⟨i0, hi, hz0, hz1, hz2⟩ := info_parts infoT
        obtain ⟨y, hy0⟩ : ∃ y, y = t.ts[j] := ⟨_, rfl⟩
        rw [← hy0] at HIX HNBY htc hyi
        have HYE := Lib.hid hy0
        have HLOW : Hid (∀ q, vT.ownBlock = some q → wb.heap.size ≤ q) := Lib.hid (fun q hq => by have := (HOWr.out.lt q hq).1; have := HTWr.out; have := HTBLr.out; omega)
        have HWL : Hid (wb.heap.size ≤ wr.heap.size) := Lib.hid HST.out.bel.size
        have HSL := Lib.hid (fun (W : World) (hW : Below wb.heap.size wr W) => (show W.cell? ⟨w.heap.size, 4, none⟩ = some (.slice (some ⟨b, off, none⟩) t.ts.length h.tc) ∧ W.cell? ⟨b, off + j * 5, none⟩ = some (.int .u8 y.k) ∧ W.cell? ⟨b, off + j * 5 + 1, none⟩ = some (.int .i64 y.n) ∧ W.cell? ⟨b, off + j * 5 + 2, none⟩ = some (.string y.s) ∧ W.cell? ⟨b, off + j * 5 + 3, none⟩ = some (.slice hd.lo y.ls.length hd.lc) ∧ W.cell? ⟨b, off + j * 5 + 4, none⟩ = some (.slice hd.to y.ts.length hd.tc) from by
          have hk : ∀ bb, bb < wb.heap.size → ∀ o v, wb.cell? ⟨bb, o, none⟩ = some v → W.cell? ⟨bb, o, none⟩ = some v := fun bb hbb o v hv => ((hW.cell (p := ⟨bb, o, none⟩) hbb).trans (HST.out.bel.cell (p := ⟨bb, o, none⟩) hbb)).trans hv
          have hbx := (Tm.cells HBX.out).c4
          rw [HTO.out] at hbx
          have hb2 : b < wb.heap.size := by have := HZB.out; omega
          exact ⟨hk _ (by have := HZB.out; omega) _ _ hbx, hk _ hb2 _ _ htc.c0, hk _ hb2 _ _ htc.c1, hk _ hb2 _ _ htc.c2, hk _ hb2 _ _ htc.c3, hk _ hb2 _ _ htc.c4⟩))
        have HSS := Lib.hid (fun (W : World) (hW : Below wr.heap.size wr W) => HSL.out W (hW.mono HWL.out))
        unfold Tm.val Tm.vals at HIX
        obtain ⟨x0, x1, x2, x3, x4⟩ := five_cells HTBr.out
        have hjlI : (j : Int) < (t.ts.length : Int) := by omega
        have hbl : b < wr.heap.size := by have := HWL.out; have := HZB.out; omega
        rw [hto] at c4
        clear hps hy0 htc hyi hto
        go_upto_region 6 with fail
        refine wp_region_held_drew (S := fun w' => w'.cell? ⟨w.heap.size, 4, none⟩ = some (.slice (some ⟨b, off, none⟩) t.ts.length h.tc) ∧ w'.cell? ⟨b, off + j * 5, none⟩ = some (.int .u8 y.k) ∧ w'.cell? ⟨b, off + j * 5 + 1, none⟩ = some (.int .i64 y.n) ∧ w'.cell? ⟨b, off + j * 5 + 2, none⟩ = some (.string y.s) ∧ w'.cell? ⟨b, off + j * 5 + 3, none⟩ = some (.slice hd.lo y.ls.length hd.lc) ∧ w'.cell? ⟨b, off + j * 5 + 4, none⟩ = some (.slice hd.to y.ts.length hd.tc)) (by kernel_rfl) (HSS.out _ (Below.refl _ _).drew) (fun hHeld => ?_)
        refine wpAnyH_take (i := 0) (v := ?vu1x0) rfl (by kernel_rfl) (by kernel_rfl) (by kernel_rfl) (fun _ _ _ h => h) (Or.inl ⟨by rfl, ?hyu1x0⟩) (by assumption) ?restu1x0
        case hyu1x0 => (intro w' hSw; (try dsimp only at hSw); go_simp <;> with_reducible rfl)
        try simp only [List.getElem_toArray, List.getElem_cons_zero, Act.put, List.setIfInBounds_toArray, List.set_cons_zero, List.set_cons_succ]
        refine wpAnyH_take (i := 2) (v := ?vu2x2) rfl (by kernel_rfl) (by kernel_rfl) (by kernel_rfl) (fun _ _ _ h => h) (Or.inl ⟨by rfl, ?hyu2x2⟩) (by assumption) ?restu2x2
        case hyu2x2 => (intro w' hSw; (try dsimp only at hSw); go_simp <;> with_reducible rfl)
        try simp only [List.getElem_toArray, List.getElem_cons_succ, List.getElem_cons_zero, Act.put, List.setIfInBounds_toArray, List.set_cons_zero, List.set_cons_succ]
        refine wpAnyH_take (i := 3) (v := ?vu3x3) rfl (by kernel_rfl) (by kernel_rfl) (by kernel_rfl) (fun _ _ _ h => h) (Or.inl ⟨by rfl, ?hyu3x3⟩) (by assumption) ?restu3x3
        case hyu3x3 => (intro w' hSw; (try dsimp only at hSw); go_simp <;> with_reducible rfl)
        try simp only [List.getElem_toArray, List.getElem_cons_succ, List.getElem_cons_zero, Act.put, List.setIfInBounds_toArray, List.set_cons_zero, List.set_cons_succ]
        refine wpAnyH_take (i := 4) (v := ?vu4x4) rfl (by kernel_rfl) (by kernel_rfl) (by kernel_rfl) (fun _ _ _ h => h) (Or.inl ⟨by rfl, ?hyu4x4⟩) (by assumption) ?restu4x4
        case hyu4x4 => (intro w' hSw; (try dsimp only at hSw); go_simp <;> with_reducible rfl)
        try simp only [List.getElem_toArray, List.getElem_cons_succ, List.getElem_cons_zero, Act.put, List.setIfInBounds_toArray, List.set_cons_zero, List.set_cons_succ]
        refine wpAnyH_take (i := 5) (v := ?vu5x5) rfl (by kernel_rfl) (by kernel_rfl) (by kernel_rfl) (fun _ _ _ h => h) (Or.inl ⟨by rfl, ?hyu5x5⟩) (by assumption) ?restu5x5
        case hyu5x5 => (intro w' hSw; (try dsimp only at hSw); go_simp <;> with_reducible rfl)
        try simp only [List.getElem_toArray, List.getElem_cons_succ, List.getElem_cons_zero, Act.put, List.setIfInBounds_toArray, List.set_cons_zero, List.set_cons_succ]
        refine wpAnyH_take (i := 6) (v := ?vu6x6) rfl (by kernel_rfl) (by kernel_rfl) (by kernel_rfl) (fun _ _ _ h => h) (Or.inl ⟨by rfl, ?hyu6x6⟩) (by assumption) ?restu6x6
        case hyu6x6 => (intro w' hSw; (try dsimp only at hSw); go_simp <;> with_reducible rfl)
        try simp only [List.getElem_toArray, List.getElem_cons_succ, List.getElem_cons_zero, Act.put, List.setIfInBounds_toArray, List.set_cons_zero, List.set_cons_succ]
        refine wpAnyH_ready (rs := [1, 7]) (by kernel_rfl) (by simp) ?_
        refine AllReadyH.cons rfl (fun K hK => ?_) (AllReadyH.cons rfl (fun K hK => ?_) AllReadyH.nil)
        · go_simp
          refine hK.out _ _ (hHeld) (fun hHeld => ?_)
          clear hK K
          try simp only [List.getElem_toArray, List.getElem_cons_succ, List.getElem_cons_zero, Act.put, List.setIfInBounds_toArray, List.set_cons_zero, List.set_cons_succ]
          refine wpAnyH_ready (rs := [7]) (by kernel_rfl) (by simp) ?_
          refine AllReadyH.cons rfl (fun K hK => ?_) AllReadyH.nil
          go_simp
          refine (HIX.out _ (Below.refl _ _).drew).mono ?_
          rintro e w4 ⟨hy, rfl, fy, b4⟩
          have HB4 := Lib.hid (show Below wr.heap.size wr w4 from Lvl.undrew b4)
          have HFY := Lib.hid (show OwnT wr.heap.size w4 y hy from fy)
          clear b4 fy
          dsimp only [Tm.val, Tm.vals]
          obtain ⟨x0, x1, x2, x3, x4⟩ := five_cells (Lvl.keep HB4.out HTBr.out)
          refine hK.out _ _ (HSS.out _ HB4.out) (fun hHeld => ?_)
          clear hK K
          try simp only [List.getElem_toArray, List.getElem_cons_succ, List.getElem_cons_zero, Act.put, List.setIfInBounds_toArray, List.set_cons_zero, List.set_cons_succ]
          refine wpAnyH_ready (rs := [8]) (by kernel_rfl) (by simp) ?_
          refine AllReadyH.cons rfl (fun K hK => ?_) AllReadyH.nil
          go_simp
          obtain ⟨x0, x1, x2, x3, x4⟩ := five_cells (keepA (Lvl.keep HB4.out HTBr.out) (.cells #[.int .u8 y.k, .int .i64 y.n, .string y.s, .slice hy.lo y.ls.length hy.lc, .slice hy.to y.ts.length hy.tc] 26))
          refine hK.out _ _ (HSS.out _ (Trm.go HB4.out (below_one _ _))) (fun hHeld => ?_)
          clear hK K
          try simp only [List.getElem_toArray, List.getElem_cons_succ, List.getElem_cons_zero, Act.put, List.setIfInBounds_toArray, List.set_cons_zero, List.set_cons_succ]
          refine wpAnyH_ready (rs := [9]) (by kernel_rfl) (by simp) ?_
          refine AllReadyH.cons rfl (fun K hK => ?_) AllReadyH.nil
          refine step_append_lies _ (by rfl) _ _ _ (by rfl) b0 26 i0 _ 5 80 Try.underlying22 hi hz0 hz1 hz2 rfl (by decide) _ _ _ (by rfl) ((own_below5 HOWr.out HB4.out).alloc _) ⟨w4.heap.size, 0, none⟩ 1 1 (y.vals hy).toList (by rfl) (by rfl) (World.news_of_block (cs := y.vals hy) (t := 26) (fr := (0, 0)) (World.alloc_heap_new w4 _)) (vals_one y hy) Nat.one_pos hq1.out hq2.out (by rw [World.size_alloc]; have := HB4.out.size; have := HB0r.out; omega) (w4.heap.size + 1) (World.size_alloc _ _) ?_
          intro g1 cap1 w5 hown5 hgrow5 hat5 hlt5
          have HO5 := Lib.hid hown5
          have HG5 := Lib.hid hgrow5
          have HAT5 := Lib.hid hat5
          clear hown5 hgrow5 hat5
          have htb5 := (HG5.out.block tb (by rw [World.size_alloc]; have := HB4.out.size; have := HTBL.out; omega) HNV.out).trans (keepA (Lvl.keep HB4.out HTBr.out) (.cells #[.int .u8 y.k, .int .i64 y.n, .string y.s, .slice hy.lo y.ls.length hy.lc, .slice hy.to y.ts.length hy.tc] 26))
          obtain ⟨x0, x1, x2, x3, x4⟩ := five_cells htb5
          obtain ⟨f0, f1, f2, f3, f4⟩ := five_free htb5
          have HL5 := Lib.hid (below_grown5 HB4.out HG5.out HLOW.out HWL.out)
          refine hK.out _ _ (HSL.out _ HL5.out) (fun hHeld => ?_)
          clear hK K
          try simp only [List.getElem_toArray, List.getElem_cons_succ, List.getElem_cons_zero, Act.put, List.setIfInBounds_toArray, List.set_cons_zero, List.set_cons_succ]
          refine wpAnyH_take (i := 10) (v := ?vu7x10) rfl (by kernel_rfl) (by kernel_rfl) (by kernel_rfl) (fun _ _ _ h => h) (Or.inl ⟨by rfl, ?hyu7x10⟩) (by assumption) ?restu7x10
          case hyu7x10 => (intro w' hSw; (try dsimp only at hSw); go_simp <;> with_reducible rfl)
          try simp only [List.getElem_toArray, List.getElem_cons_succ, List.getElem_cons_zero, Act.put, List.setIfInBounds_toArray, List.set_cons_zero, List.set_cons_succ]
          refine wpAnyH_ready (rs := [11]) (by kernel_rfl) (by simp) ?_
          refine AllReadyH.cons rfl (fun K hK => ?_) AllReadyH.nil
          go_simp
          refine hK.out _ _ (HSL.out _ (HL5.out.setCell (by show wb.heap.size ≤ tb; have := HTWr.out; omega) _)) (fun hHeld => ?_)
          clear hK K
          try simp only [List.getElem_toArray, List.getElem_cons_succ, List.getElem_cons_zero, Act.put, List.setIfInBounds_toArray, List.set_cons_zero, List.set_cons_succ]
          refine wpAnyH_done (by kernel_rfl) ?_ _
          have HNX := Lib.hid (TRel.step HST.out hlt HYE.out HB4.out HFY.out HO5.out HG5.out HAT5.out)
          have hwj : IntKind.i64.wrap ((j : Int) + 1) = (j : Int) + 1 := IntWalk.i64_in _ (by omega)
          go_wp2_with fail
          go_roundw
          case rel => exact ⟨j + 1, _, _, by go_num, HNX.out⟩
          case measure => simp [intOf]; omega
        · go_simp
          refine (HIX.out _ (Below.refl _ _).drew).mono ?_
          rintro e w4 ⟨hy, rfl, fy, b4⟩
          have HB4 := Lib.hid (show Below wr.heap.size wr w4 from Lvl.undrew b4)
          have HFY := Lib.hid (show OwnT wr.heap.size w4 y hy from fy)
          clear b4 fy
          dsimp only [Tm.val, Tm.vals]
          obtain ⟨x0, x1, x2, x3, x4⟩ := five_cells (Lvl.keep HB4.out HTBr.out)
          refine hK.out _ _ (HSS.out _ HB4.out) (fun hHeld => ?_)
          clear hK K
          try simp only [List.getElem_toArray, List.getElem_cons_succ, List.getElem_cons_zero, Act.put, List.setIfInBounds_toArray, List.set_cons_zero, List.set_cons_succ]
          refine wpAnyH_ready (rs := [1, 8]) (by kernel_rfl) (by simp) ?_
          refine AllReadyH.cons rfl (fun K hK => ?_) (AllReadyH.cons rfl (fun K hK => ?_) AllReadyH.nil)
          · go_simp
            refine hK.out _ _ (hHeld) (fun hHeld => ?_)
            clear hK K
            try simp only [List.getElem_toArray, List.getElem_cons_succ, List.getElem_cons_zero, Act.put, List.setIfInBounds_toArray, List.set_cons_zero, List.set_cons_succ]
            refine wpAnyH_ready (rs := [8]) (by kernel_rfl) (by simp) ?_
            refine AllReadyH.cons rfl (fun K hK => ?_) AllReadyH.nil
            go_simp
            obtain ⟨x0, x1, x2, x3, x4⟩ := five_cells (keepA (Lvl.keep HB4.out HTBr.out) (.cells #[.int .u8 y.k, .int .i64 y.n, .string y.s, .slice hy.lo y.ls.length hy.lc, .slice hy.to y.ts.length hy.tc] 26))
            refine hK.out _ _ (HSS.out _ (Trm.go HB4.out (below_one _ _))) (fun hHeld => ?_)
            clear hK K
            try simp only [List.getElem_toArray, List.getElem_cons_succ, List.getElem_cons_zero, Act.put, List.setIfInBounds_toArray, List.set_cons_zero, List.set_cons_succ]
            refine wpAnyH_ready (rs := [9]) (by kernel_rfl) (by simp) ?_
            refine AllReadyH.cons rfl (fun K hK => ?_) AllReadyH.nil
            refine step_append_lies _ (by rfl) _ _ _ (by rfl) b0 26 i0 _ 5 80 Try.underlying22 hi hz0 hz1 hz2 rfl (by decide) _ _ _ (by rfl) ((own_below5 HOWr.out HB4.out).alloc _) ⟨w4.heap.size, 0, none⟩ 1 1 (y.vals hy).toList (by rfl) (by rfl) (World.news_of_block (cs := y.vals hy) (t := 26) (fr := (0, 0)) (World.alloc_heap_new w4 _)) (vals_one y hy) Nat.one_pos hq1.out hq2.out (by rw [World.size_alloc]; have := HB4.out.size; have := HB0r.out; omega) (w4.heap.size + 1) (World.size_alloc _ _) ?_
            intro g1 cap1 w5 hown5 hgrow5 hat5 hlt5
            have HO5 := Lib.hid hown5
            have HG5 := Lib.hid hgrow5
            have HAT5 := Lib.hid hat5
            clear hown5 hgrow5 hat5
            have htb5 := (HG5.out.block tb (by rw [World.size_alloc]; have := HB4.out.size; have := HTBL.out; omega) HNV.out).trans (keepA (Lvl.keep HB4.out HTBr.out) (.cells #[.int .u8 y.k, .int .i64 y.n, .string y.s, .slice hy.lo y.ls.length hy.lc, .slice hy.to y.ts.length hy.tc] 26))
            obtain ⟨x0, x1, x2, x3, x4⟩ := five_cells htb5
            obtain ⟨f0, f1, f2, f3, f4⟩ := five_free htb5
            have HL5 := Lib.hid (below_grown5 HB4.out HG5.out HLOW.out HWL.out)
            refine hK.out _ _ (HSL.out _ HL5.out) (fun hHeld => ?_)
            clear hK K
            try simp only [List.getElem_toArray, List.getElem_cons_succ, List.getElem_cons_zero, Act.put, List.setIfInBounds_toArray, List.set_cons_zero, List.set_cons_succ]
            refine wpAnyH_take (i := 10) (v := ?vu8x10) rfl (by kernel_rfl) (by kernel_rfl) (by kernel_rfl) (fun _ _ _ h => h) (Or.inl ⟨by rfl, ?hyu8x10⟩) (by assumption) ?restu8x10
            case hyu8x10 => (intro w' hSw; (try dsimp only at hSw); go_simp <;> with_reducible rfl)
            try simp only [List.getElem_toArray, List.getElem_cons_succ, List.getElem_cons_zero, Act.put, List.setIfInBounds_toArray, List.set_cons_zero, List.set_cons_succ]
            refine wpAnyH_ready (rs := [11]) (by kernel_rfl) (by simp) ?_
            refine AllReadyH.cons rfl (fun K hK => ?_) AllReadyH.nil
            go_simp
            refine hK.out _ _ (HSL.out _ (HL5.out.setCell (by show wb.heap.size ≤ tb; have := HTWr.out; omega) _)) (fun hHeld => ?_)
            clear hK K
            try simp only [List.getElem_toArray, List.getElem_cons_succ, List.getElem_cons_zero, Act.put, List.setIfInBounds_toArray, List.set_cons_zero, List.set_cons_succ]
            refine wpAnyH_done (by kernel_rfl) ?_ _
            have HNX := Lib.hid (TRel.step HST.out hlt HYE.out HB4.out HFY.out HO5.out HG5.out HAT5.out)
            have hwj : IntKind.i64.wrap ((j : Int) + 1) = (j : Int) + 1 := IntWalk.i64_in _ (by omega)
            go_wp2_with fail
            go_roundw
            case rel => exact ⟨j + 1, _, _, by go_num, HNX.out⟩
            case measure => simp [intOf]; omega
          · go_simp
            obtain ⟨x0, x1, x2, x3, x4⟩ := five_cells (keepA (Lvl.keep HB4.out HTBr.out) (.cells #[.int .u8 y.k, .int .i64 y.n, .string y.s, .slice hy.lo y.ls.length hy.lc, .slice hy.to y.ts.length hy.tc] 26))
            refine hK.out _ _ (HSS.out _ (Trm.go HB4.out (below_one _ _))) (fun hHeld => ?_)
            clear hK K
            try simp only [List.getElem_toArray, List.getElem_cons_succ, List.getElem_cons_zero, Act.put, List.setIfInBounds_toArray, List.set_cons_zero, List.set_cons_succ]
            refine wpAnyH_ready (rs := [1]) (by kernel_rfl) (by simp) ?_
            refine AllReadyH.cons rfl (fun K hK => ?_) AllReadyH.nil
            go_simp
            refine hK.out _ _ (hHeld) (fun hHeld => ?_)
            clear hK K
            try simp only [List.getElem_toArray, List.getElem_cons_succ, List.getElem_cons_zero, Act.put, List.setIfInBounds_toArray, List.set_cons_zero, List.set_cons_succ]
            refine wpAnyH_ready (rs := [9]) (by kernel_rfl) (by simp) ?_
            refine AllReadyH.cons rfl (fun K hK => ?_) AllReadyH.nil
            refine step_append_lies _ (by rfl) _ _ _ (by rfl) b0 26 i0 _ 5 80 Try.underlying22 hi hz0 hz1 hz2 rfl (by decide) _ _ _ (by rfl) ((own_below5 HOWr.out HB4.out).alloc _) ⟨w4.heap.size, 0, none⟩ 1 1 (y.vals hy).toList (by rfl) (by rfl) (World.news_of_block (cs := y.vals hy) (t := 26) (fr := (0, 0)) (World.alloc_heap_new w4 _)) (vals_one y hy) Nat.one_pos hq1.out hq2.out (by rw [World.size_alloc]; have := HB4.out.size; have := HB0r.out; omega) (w4.heap.size + 1) (World.size_alloc _ _) ?_
            intro g1 cap1 w5 hown5 hgrow5 hat5 hlt5
            have HO5 := Lib.hid hown5
            have HG5 := Lib.hid hgrow5
            have HAT5 := Lib.hid hat5
            clear hown5 hgrow5 hat5
            have htb5 := (HG5.out.block tb (by rw [World.size_alloc]; have := HB4.out.size; have := HTBL.out; omega) HNV.out).trans (keepA (Lvl.keep HB4.out HTBr.out) (.cells #[.int .u8 y.k, .int .i64 y.n, .string y.s, .slice hy.lo y.ls.length hy.lc, .slice hy.to y.ts.length hy.tc] 26))
            obtain ⟨x0, x1, x2, x3, x4⟩ := five_cells htb5
            obtain ⟨f0, f1, f2, f3, f4⟩ := five_free htb5
            have HL5 := Lib.hid (below_grown5 HB4.out HG5.out HLOW.out HWL.out)
            refine hK.out _ _ (HSL.out _ HL5.out) (fun hHeld => ?_)
            clear hK K
            try simp only [List.getElem_toArray, List.getElem_cons_succ, List.getElem_cons_zero, Act.put, List.setIfInBounds_toArray, List.set_cons_zero, List.set_cons_succ]
            refine wpAnyH_take (i := 10) (v := ?vu9x10) rfl (by kernel_rfl) (by kernel_rfl) (by kernel_rfl) (fun _ _ _ h => h) (Or.inl ⟨by rfl, ?hyu9x10⟩) (by assumption) ?restu9x10
            case hyu9x10 => (intro w' hSw; (try dsimp only at hSw); go_simp <;> with_reducible rfl)
            try simp only [List.getElem_toArray, List.getElem_cons_succ, List.getElem_cons_zero, Act.put, List.setIfInBounds_toArray, List.set_cons_zero, List.set_cons_succ]
            refine wpAnyH_ready (rs := [11]) (by kernel_rfl) (by simp) ?_
            refine AllReadyH.cons rfl (fun K hK => ?_) AllReadyH.nil
            go_simp
            refine hK.out _ _ (HSL.out _ (HL5.out.setCell (by show wb.heap.size ≤ tb; have := HTWr.out; omega) _)) (fun hHeld => ?_)
            clear hK K
            try simp only [List.getElem_toArray, List.getElem_cons_succ, List.getElem_cons_zero, Act.put, List.setIfInBounds_toArray, List.set_cons_zero, List.set_cons_succ]
            refine wpAnyH_done (by kernel_rfl) ?_ _
            have HNX := Lib.hid (TRel.step HST.out hlt HYE.out HB4.out HFY.out HO5.out HG5.out HAT5.out)
            have hwj : IntKind.i64.wrap ((j : Int) + 1) = (j : Int) + 1 := IntWalk.i64_in _ (by omega)
            go_wp2_with fail
            go_roundw
            case rel => exact ⟨j + 1, _, _, by go_num, HNX.out⟩
            case measure => simp [intOf]; omega
      · obtain ⟨x0, x1, x2, x3, x4⟩ := five_cells HST.out.blk
        obtain ⟨y0, y1, y2, y3, y4⟩ := five_cells HST.out.rb
        obtain ⟨f0, f1, f2, f3, f4⟩ := five_free HST.out.rb
        obtain ⟨to, tc, rfl, hfirm, hsp⟩ := TRel.final2 HST.out (by omega) HFIT.out (by omega)
        have HFI := Lib.hid hfirm
        have HSP := Lib.hid hsp
        clear hsp
        have HRBx := Lib.hid HST.out.rb
        have HBW := Lib.hid HST.out.bel
        clear hfirm
        go_wp2_with fail
        have h5 := putT_self HRBx.out (.int .u8 t.k) (.int .i64 t.n) (.string t.s) (.slice lo t.ls.length lc) (.slice to t.ts.length tc)
        have b5 := putT_below HBW.out (Nat.le_refl _) (.int .u8 t.k) (.int .i64 t.n) (.string t.s) (.slice lo t.ls.length lc) (.slice to t.ts.length tc)
        have r5 := putT_ran5 wr wb.heap.size (.int .u8 t.k) (.int .i64 t.n) (.string t.s) (.slice lo t.ls.length lc) (.slice to t.ts.length tc)
        unfold putT at h5 b5 r5
        obtain ⟨e0, e1, e2, e3, e4⟩ := five_cells h5
        exact bodyPost_ret (v := t.val ⟨lo, lc, to, tc⟩) (by simp [results, Try.results7, go_sem, e0, e1, e2, e3, e4, Tm.val, Tm.vals]) rfl ⟨_, rfl, ⟨FirmS.turn (P := fun z => z < wb.heap.size + 1) HFI.out r5 (fun z hz => Or.inl (by have := HZB.out; have hz' : z < w.heap.size := hz; show z < wb.heap.size + 1; omega)), (Tm.Sp.ran r5 _ _ _ _ HSP.out (fun q hq hh => by have hq' : q < wb.heap.size + 1 := hq; omega)).mono (by have := HZB.out; omega) r5.size⟩, Bb.out.trans (b5.mono (by have := HZB.out; omega))⟩
end Go.Proofs.Ytjicdmohnfcflaa

