/-
  arena.tree: the term of a number, in memory of its own.
-/
import Derived.Test.YtjicdmohnfcflaaQArnSp
import Derived.Deep.AppendLies
namespace Go.Proofs.Ytjicdmohnfcflaa
open Go.RowKit Go.Shelf Go.Maps Lvl Trm Arn

namespace Arn
theorem cells_same5 {w : World} {g o b i : Nat} {x : Value} (h : g ≠ b) : (w.setCell ⟨b, i, none⟩ x).cell? ⟨g, o, none⟩ = w.cell? ⟨g, o, none⟩ := World.cell?_of_block (RowKit.Below.heap_setCell _ _ _ _ h)
theorem own_below5 {w w' : World} {base e size n : Nat} {v : Value} {xs : List Value} (h : w.ownsRow base e size v n xs) (b : Below w.heap.size w w') : w'.ownsRow base e size v n xs := ownsRow_same h fun q hq => b.block q (h.lt q hq).2
theorem vals_one (y : Tm) (hy : Hd) : ∀ q ∈ (y.vals hy).toList, q.oneCell' = true := fun q hq => by
  simp [Tm.vals] at hq
  rcases hq with rfl | rfl | rfl | rfl | rfl <;> rfl
theorem flat_snoc5 (ps : List (Tm × Hd)) (y : Tm) (hy : Hd) : flat (ps ++ [(y, hy)]) = flat ps ++ (y.vals hy).toList := by simp [flat]
theorem putT_ran5 (w : World) (b : Nat) (v0 v1 v2 v3 v4 : Value) : RanS (fun z => z < b + 1) w (putT w b v0 v1 v2 v3 v4) := by
  unfold putT
  have h : ∀ (W : World) (i : Nat) (x : Value), RanS (fun z => z < b + 1) W (W.setCell ⟨b, i, none⟩ x) := fun W i x => set_ran (P := fun z => z < b + 1) W b i x (Nat.lt_succ_self b)
  exact ((((h _ _ _).trans (h _ _ _)).trans (h _ _ _)).trans (h _ _ _)).trans (h _ _ _)
/-- Behind j of the parts. -/
structure TRel (w : World) (t : Tm) (tb b0 : Nat) (lo : Option Addr) (lc : Nat) (j : Nat) (ps : List (Tm × Hd)) (vT : Value) (wr : World) : Prop where
  le : j ≤ t.ts.length
  len : ps.length = j
  map : ps.map (·.1) = t.ts.take j
  bel : Below w.heap.size w wr
  rb : wr.heap[w.heap.size]? = some (.cells #[.int .u8 0, .int .i64 0, .string ⟨#[]⟩, .slice none 0 0, .slice none 0 0] 26)
  blk : wr.heap[tb]? = some (.cells #[.int .u8 t.k, .int .i64 t.n, .string t.s, .slice lo t.ls.length lc, vT] 26)
  own : wr.ownsRow b0 26 5 vT ps.length (flat ps)
  firm : ∀ p ∈ ps, FirmS (fun q => q < b0 ∨ vT.ownBlock = some q) wr p.1 p.2
  tbw : w.heap.size + 1 ≤ tb
  tbl : tb < b0
  b0le : b0 ≤ wr.heap.size
  apart : some tb ≠ vT.ownBlock
  low : ∀ a, lo = some a → tb < a.block ∧ a.block < b0
  row : LRow wr lo t.ls
  soft : ∀ a, lo = some a → Room wr a (t.ls.length * 5)
  sep : Sep wr b0 vT.ownBlock ps
theorem row_keep {w w' : World} {lo : Option Addr} {ls : List Lv} (h : LRow w lo ls) (hb : ∀ a, lo = some a → w'.heap[a.block]? = w.heap[a.block]?) : LRow w' lo ls := by
  refine ⟨fun j hj => ?_⟩
  obtain ⟨b, off, hao, h0, h1, h2, h3, h4⟩ := h.place j hj
  have e := hb _ hao
  have k : ∀ o, w'.cell? ⟨b, o, none⟩ = w.cell? ⟨b, o, none⟩ := fun o => World.cell?_of_block e
  exact ⟨b, off, hao, (k _).trans h0, (k _).trans h1, (k _).trans h2, (k _).trans h3, (k _).trans h4⟩
theorem TRel.below {w : World} {t : Tm} {tb b0 : Nat} {lo : Option Addr} {lc j : Nat} {ps : List (Tm × Hd)} {vT : Value} {wr w' : World} (h : TRel w t tb b0 lo lc j ps vT wr) (b : Below wr.heap.size wr w') : TRel w t tb b0 lo lc j ps vT w' :=
  ⟨h.le, h.len, h.map, Trm.go h.bel b, Lvl.keep b h.rb, Lvl.keep b h.blk, own_below5 h.own b, fun p hp => (h.firm p hp).step (RanS.of_below b), h.tbw, h.tbl, Nat.le_trans h.b0le b.size, h.apart, h.low, h.row.below b, fun a ha => (h.soft a ha).same (b.block _ (h.soft a ha).lt), h.sep.ran (P := fun _ => False) (RanS.of_below b) (fun _ hp => hp.elim)⟩
theorem TRel.start {w WT wg : World} {t : Tm} {tb : Nat} {lo : Option Addr} {lc : Nat} {vg : Value} (bT : Below w.heap.size w WT) (hrb : WT.heap[w.heap.size]? = some (.cells #[.int .u8 0, .int .i64 0, .string ⟨#[]⟩, .slice none 0 0, .slice none 0 0] 26)) (htb : WT.heap[tb]? = some (.cells #[.int .u8 t.k, .int .i64 t.n, .string t.s, .slice lo t.ls.length lc, .slice none 0 0] 26))
    (htw : w.heap.size + 1 ≤ tb) (hlo : ∀ a, lo = some a → tb < a.block ∧ a.block < WT.heap.size) (hrow : LRow WT lo t.ls) (hsoft : ∀ a, lo = some a → Room WT a (t.ls.length * 5)) (bg : Below WT.heap.size WT wg) (hog : wg.ownsRow WT.heap.size 26 5 vg 0 []) :
    TRel w t tb WT.heap.size lo lc 0 [] vg (wg.setCell ⟨tb, 4, none⟩ vg) := by
  have htl := (Array.getElem?_eq_some_iff.1 htb).1
  have hap : some tb ≠ vg.ownBlock := fun e => by have := (hog.lt tb e.symm).1; omega
  have hk := Lvl.keep bg htb
  have hsz : (wg.setCell ⟨tb, 4, none⟩ vg).heap.size = wg.heap.size := by simp [World.setCell]
  refine ⟨Nat.zero_le _, rfl, by simp, (Trm.go bT bg).setCell (by show w.heap.size ≤ tb; omega) _, cells_other (Lvl.keep bg hrb) _ (by omega), ?_, ownsRow_same hog fun q hq => RowKit.Below.heap_setCell _ _ _ _ (fun e => hap (by have e2 : q = tb := e; rw [← e2]; exact hq.symm)), fun p hp => by simp at hp, htw, htl, by rw [hsz]; exact bg.size, hap, hlo, row_keep (hrow.below bg) fun a ha => RowKit.Below.heap_setCell _ _ _ _ (show a.block ≠ tb by have := (hlo a ha).1; omega), fun a ha => (((hsoft a ha).same (bg.block _ (hsoft a ha).lt))).set _ _ _, Sep.nil⟩
  have := cells_set (i := 4) hk vg
  simpa using this
theorem TRel.step {w : World} {t : Tm} {tb b0 : Nat} {lo : Option Addr} {lc j : Nat} {ps : List (Tm × Hd)} {vT : Value} {wr w4 w5 : World} {hy : Hd} {g1 cap1 : Nat} {o : Obj} (h : TRel w t tb b0 lo lc j ps vT wr) (hlt : j < t.ts.length) {y : Tm} (hye : y = t.ts[j]) (b4 : Below wr.heap.size wr w4) (fy : OwnT wr.heap.size w4 y hy)
    (h5 : w5.ownsRow b0 26 5 (.slice (some ⟨g1, 0, none⟩) (ps.length + 1) cap1) (ps.length + 1) (flat ps ++ (y.vals hy).toList)) (g5 : (w4.alloc o).grownBy w5 vT.ownBlock) (hat : vT.ownBlock = some g1 ∨ g1 = w4.heap.size + 1) :
    TRel w t tb b0 lo lc (j + 1) (ps ++ [(y, hy)]) (.slice (some ⟨g1, 0, none⟩) (ps.length + 1) cap1) (w5.setCell ⟨tb, 4, none⟩ (.slice (some ⟨g1, 0, none⟩) (ps.length + 1) cap1)) := by
  subst hye
  have htl := (Array.getElem?_eq_some_iff.1 h.blk).1
  have s4 := b4.size
  have s5 := g5.size
  rw [World.size_alloc] at s5
  have hgt : g1 ≠ tb := by
    rcases hat with e | e
    · exact fun e2 => h.apart (by rw [e, e2])
    · omega
  have hkeep : ∀ q, q < wr.heap.size → some q ≠ vT.ownBlock → w5.heap[q]? = wr.heap[q]? := fun q hq hn => by
    rw [g5.block q (by rw [World.size_alloc]; omega) hn, (below_one w4 o).block q (by omega), b4.block q hq]
  have hset : ∀ q, q ≠ tb → (w5.setCell ⟨tb, 4, none⟩ (.slice (some ⟨g1, 0, none⟩) (ps.length + 1) cap1)).heap[q]? = w5.heap[q]? := fun q hq => RowKit.Below.heap_setCell _ _ _ _ hq
  have hsz : (w5.setCell ⟨tb, 4, none⟩ (.slice (some ⟨g1, 0, none⟩) (ps.length + 1) cap1)).heap.size = w5.heap.size := by simp [World.setCell]
  have hnw : ∀ q, q < b0 → some q ≠ vT.ownBlock := fun q hq e => by have := (h.own.lt q e.symm).1; omega
  have hr : RanS (fun q => q < b0 ∨ vT.ownBlock = some q) w4 (w5.setCell ⟨tb, 4, none⟩ (.slice (some ⟨g1, 0, none⟩) (ps.length + 1) cap1)) :=
    ((RanS.of_below (below_one w4 o)).trans (grown_ran g5 (fun q e => Or.inr e))).trans (set_ran _ _ _ _ (Or.inl h.tbl))
  refine ⟨hlt, by simp [h.len], ?_, ?_, ?_, ?_, ?_, ?_, h.tbw, h.tbl, by rw [hsz]; have := h.b0le; omega, ?_, h.low, ?_, fun a ha => ?_, ?_⟩
  · rw [List.map_append, h.map]
    exact (List.take_succ_eq_append_getElem hlt).symm
  · have hb5 : Below w.heap.size w w5 := ⟨g5.os.trans ((below_one w4 o).os.trans (b4.os.trans h.bel.os)), g5.tape.trans ((below_one w4 o).tape.trans (b4.tape.trans h.bel.tape)), g5.output.trans ((below_one w4 o).output.trans (b4.output.trans h.bel.output)), by have := h.bel.size; omega, fun q hq => by
      rw [hkeep q (by have := h.bel.size; omega) (hnw q (by have := h.tbw; have := h.tbl; omega)), h.bel.block q hq]⟩
    exact hb5.setCell (by show w.heap.size ≤ tb; have := h.tbw; omega) _
  · rw [hset _ (by have := h.tbw; omega), hkeep _ (by have := h.tbw; omega) (hnw _ (by have := h.tbw; have := h.tbl; omega))]; exact h.rb
  · have e : w5.heap[tb]? = some (.cells #[.int .u8 t.k, .int .i64 t.n, .string t.s, .slice lo t.ls.length lc, vT] 26) := (hkeep tb htl h.apart).trans h.blk
    have := cells_set (i := 4) e (.slice (some ⟨g1, 0, none⟩) (ps.length + 1) cap1)
    simpa using this
  · rw [List.length_append, List.length_singleton, flat_snoc5]
    exact ownsRow_same h5 fun q hq => hset q (fun e => hgt (by injection hq with hq; rw [← e, ← hq]))
  · have hP' : ∀ q, (q < b0 ∨ (Value.slice (some ⟨g1, 0, none⟩) (ps.length + 1) cap1).ownBlock = some q) → (q < b0 ∨ vT.ownBlock = some q) ∨ w4.heap.size ≤ q := by
      rintro q (hq | hq)
      · exact Or.inl (Or.inl hq)
      · injection hq with hq
        have hq2 : g1 = q := hq
        subst hq2
        rcases hat with e | e
        · exact Or.inl (Or.inr e)
        · exact Or.inr (by omega)
    intro p hp
    rcases List.mem_append.1 hp with hp | hp
    · exact FirmS.turn ((h.firm p hp).step (RanS.of_below b4)) hr hP'
    · simp at hp
      subst hp
      have hr2 : RanS (fun z => z < wr.heap.size) w4 (w5.setCell ⟨tb, 4, none⟩ (.slice (some ⟨g1, 0, none⟩) (ps.length + 1) cap1)) := hr.wide (fun q hq => by
        rcases hq with hq | hq
        · have := h.b0le; show q < wr.heap.size; omega
        · exact (h.own.lt q hq).2)
      exact FirmS.turn fy.1 hr2 (fun q hq => (hP' q hq).imp (fun hq => by
        rcases hq with hq | hq
        · have := h.b0le; show q < wr.heap.size; omega
        · exact (h.own.lt q hq).2) id)
  · intro e
    injection e with e
    exact hgt (show g1 = tb from e.symm)
  · refine row_keep h.row fun a ha => ?_
    obtain ⟨l1, l2⟩ := h.low a ha
    rw [hset _ (by omega), hkeep _ (by have := h.b0le; omega) (hnw _ l2)]
  · obtain ⟨l1, l2⟩ := h.low a ha
    exact (h.soft a ha).same (by rw [hset _ (by omega), hkeep _ (by have := h.b0le; omega) (hnw _ l2)])
  · exact Sep.snoc (g1 := g1) h.sep b4 fy.2 h.b0le (fun q hq => (h.own.lt q hq).2) hr (fun q hq => hq) (hat.imp id (fun e => by omega))
theorem TRel.final {w : World} {t : Tm} {tb b0 : Nat} {lo : Option Addr} {lc j : Nat} {ps : List (Tm × Hd)} {vT : Value} {wr : World} (h : TRel w t tb b0 lo lc j ps vT wr) (hj : j = t.ts.length) (hm : t.may = true) :
    ∃ to tc, vT = .slice to t.ts.length tc ∧ FirmS (fun z => z < w.heap.size + 1) wr t ⟨lo, lc, to, tc⟩ ∧ t.Sp wr (w.heap.size + 1) wr.heap.size ⟨lo, lc, to, tc⟩ := by
  have hn := may_node hm
  have hk := node_few hn
  have hnn := node_num hn
  have hlen := h.len
  obtain ⟨to, tc, hv, hf⟩ := firm_own (P := fun z => z < w.heap.size + 1) (k := t.k) (n := t.n) (s := t.s) (ls := t.ls) (lc := lc) h.own (by omega) (by omega) (by omega) (by omega) (by have := node_str hn; omega) (by have := node_ls hn; omega) h.row (fun a ha => by
    obtain ⟨l1, l2⟩ := h.low a ha
    have := h.tbw
    have := h.b0le
    exact ⟨by show ¬ a.block < _; omega, by omega⟩) (fun q hq => by have := h.tbw; have := h.tbl; omega) (fun p hp => (h.firm p hp).less (fun q _ hq => Or.inl (by have := h.tbw; have := h.tbl; omega))) (by omega)
  have e : ps.map (·.1) = t.ts := by rw [h.map, hj, List.take_length]
  have hs := sp_own (k := t.k) (n := t.n) (s := t.s) (ls := t.ls) (lo := lo) (lc := lc) (to := to) (tc := tc) h.own hv (show w.heap.size + 1 ≤ b0 by have := h.tbw; have := h.tbl; omega) h.sep (fun a ha => by have := h.low a ha; have := h.tbw; omega) h.soft h.row
  rw [e, ← Tm.eta t] at hf hs
  refine ⟨to, tc, by rw [hv, hlen, hj], hf, hs⟩
def TreePost (w : World) (t : Tm) (e : Ending) (w' : World) : Prop := ∃ h, e = .returned (t.val h) ∧ OwnT w.heap.size w' t h ∧ Below w.heap.size w w'
end Arn
set_option maxRecDepth 100000 in
set_option maxHeartbeats 8000000 in
theorem tree_any (t : Tm) : ∀ (w : World) (A : Nat) (L : List Tm) (v : Value) (mo : Option Nat), Ar w A L v mo → t ∈ L →
    Calls Try.prog 34 #[.pointer (some ⟨A, 0, none⟩), .int .i64 (num L t : Nat)] w (TreePost w t) := by
  induction t using Tm.ind with
  | h t ih =>
    intro w A L v mo har hmem
    have HAR := Lib.hid har
    have HIH := Lib.hid ih
    have HMEM := Lib.hid hmem
    have HMAY := Lib.hid (har.ok.may t hmem)
    have hl3 : t.ts.length ≤ 3 := (node_few (may_node HMAY.out)).2.1
    have hl4 := node_ls (may_node HMAY.out)
    have hql : num L t < L.length := num_lt hmem
    obtain ⟨g, cap, hv, hg, _, hcell⟩ := har.node hql
    rw [num_get hmem] at hcell
    have HCA := Lib.hid (fun (W : World) (hW : Below w.heap.size w W) (j : Nat) (u : Value) (hu : (nodeT L t)[j]? = some u) => (hW.cell (p := ⟨g, num L t * 31 + j, none⟩) hg).trans (hcell j u hu))
    obtain ⟨q, hq⟩ : ∃ q, q = num L t := ⟨_, rfl⟩
    rw [← hq] at hql HCA ⊢
    have HC3 := Lib.hid (fun (W : World) (hW : Below w.heap.size w W) => (show W.cell? ⟨g, q * 31 + 1, none⟩ = some (.int .u8 t.k) ∧ W.cell? ⟨g, q * 31 + 2, none⟩ = some (.int .i64 t.n) ∧ W.cell? ⟨g, q * 31, none⟩ = some (.string t.s) from ⟨HCA.out W hW 1 _ rfl, HCA.out W hW 2 _ rfl, HCA.out W hW 0 _ rfl⟩))
    have hinfT := (show (Try.prog.info? 26).map (·.size) = some 5 by kernel_rfl)
    clear har ih hmem hcell hq
    go_enter Try.func34, Try.ntmps34
    go_upto_region 1 with fail
    obtain ⟨W0, hW0⟩ : ∃ W0, W0 = w.alloc (.cells #[.int .u8 0, .int .i64 0, .string ⟨#[]⟩, .slice none 0 0, .slice none 0 0] 26) := ⟨_, rfl⟩
    have B0 := Lib.hid (show Below w.heap.size w W0 from hW0 ▸ below_one _ _)
    have HR0 := Lib.hid (show W0.heap[w.heap.size]? = some (.cells #[.int .u8 0, .int .i64 0, .string ⟨#[]⟩, .slice none 0 0, .slice none 0 0] 26) from hW0 ▸ World.alloc_heap_new w _)
    have hz0 : W0.heap.size = w.heap.size + 1 := by rw [hW0]; simp
    have HZ0 := Lib.hid hz0
    rw [← hW0]
    clear hW0 hz0
    obtain ⟨a0, a1⟩ := two_cells (HAR.out.below B0.out (Nat.le_refl _)).box
    rw [hv] at a0
    clear hv
    go_upto_region 2 with fail
    clear a0 a1
    refine wp_region_held_drew (S := fun w' => w'.cell? ⟨g, q * 31 + 1, none⟩ = some (.int .u8 t.k) ∧ w'.cell? ⟨g, q * 31 + 2, none⟩ = some (.int .i64 t.n) ∧ w'.cell? ⟨g, q * 31, none⟩ = some (.string t.s)) (by kernel_rfl) (HC3.out W0 B0.out) (fun hHeld => ?_)
    refine wpAnyH_take (i := 0) (v := ?vu1x0) rfl (by kernel_rfl) (by kernel_rfl) (by kernel_rfl) (fun _ _ _ h => h) (Or.inl ⟨by rfl, ?hyu1x0⟩) (by assumption) ?restu1x0
    case hyu1x0 => (intro w' hSw; (try dsimp only at hSw); go_simp <;> with_reducible rfl)
    try simp only [List.getElem_toArray, List.getElem_cons_zero, Act.put, List.setIfInBounds_toArray, List.set_cons_zero, List.set_cons_succ]
    refine wpAnyH_take (i := 1) (v := ?vu2x1) rfl (by kernel_rfl) (by kernel_rfl) (by kernel_rfl) (fun _ _ _ h => h) (Or.inl ⟨by rfl, ?hyu2x1⟩) (by assumption) ?restu2x1
    case hyu2x1 => (intro w' hSw; (try dsimp only at hSw); go_simp <;> with_reducible rfl)
    try simp only [List.getElem_toArray, List.getElem_cons_succ, List.getElem_cons_zero, Act.put, List.setIfInBounds_toArray, List.set_cons_zero, List.set_cons_succ]
    refine wpAnyH_take (i := 2) (v := ?vu3x2) rfl (by kernel_rfl) (by kernel_rfl) (by kernel_rfl) (fun _ _ _ h => h) (Or.inl ⟨by rfl, ?hyu3x2⟩) (by assumption) ?restu3x2
    case hyu3x2 => (intro w' hSw; (try dsimp only at hSw); go_simp <;> with_reducible rfl)
    try simp only [List.getElem_toArray, List.getElem_cons_succ, List.getElem_cons_zero, Act.put, List.setIfInBounds_toArray, List.set_cons_zero, List.set_cons_succ]
    refine wpAnyH_take (i := 3) (v := ?vu4x3) rfl (by kernel_rfl) (by kernel_rfl) (by kernel_rfl) (fun _ _ _ h => h) (Or.inl ⟨by rfl, ?hyu4x3⟩) (by assumption) ?restu4x3
    case hyu4x3 => (intro w' hSw; (try dsimp only at hSw); go_simp <;> with_reducible rfl)
    try simp only [List.getElem_toArray, List.getElem_cons_succ, List.getElem_cons_zero, Act.put, List.setIfInBounds_toArray, List.set_cons_zero, List.set_cons_succ]
    refine wpAnyH_take (i := 4) (v := ?vu5x4) rfl (by kernel_rfl) (by kernel_rfl) (by kernel_rfl) (fun _ _ _ h => h) (Or.inl ⟨by rfl, ?hyu5x4⟩) (by assumption) ?restu5x4
    case hyu5x4 => (intro w' hSw; (try dsimp only at hSw); go_simp <;> with_reducible rfl)
    try simp only [List.getElem_toArray, List.getElem_cons_succ, List.getElem_cons_zero, Act.put, List.setIfInBounds_toArray, List.set_cons_zero, List.set_cons_succ]
    refine wpAnyH_take (i := 5) (v := ?vu6x5) rfl (by kernel_rfl) (by kernel_rfl) (by kernel_rfl) (fun _ _ _ h => h) (Or.inl ⟨by rfl, ?hyu6x5⟩) (by assumption) ?restu6x5
    case hyu6x5 => (intro w' hSw; (try dsimp only at hSw); go_simp <;> with_reducible rfl)
    try simp only [List.getElem_toArray, List.getElem_cons_succ, List.getElem_cons_zero, Act.put, List.setIfInBounds_toArray, List.set_cons_zero, List.set_cons_succ]
    refine wpAnyH_take (i := 6) (v := ?vu7x6) rfl (by kernel_rfl) (by kernel_rfl) (by kernel_rfl) (fun _ _ _ h => h) (Or.inl ⟨by rfl, ?hyu7x6⟩) (by assumption) ?restu7x6
    case hyu7x6 => (intro w' hSw; (try dsimp only at hSw); go_simp <;> with_reducible rfl)
    try simp only [List.getElem_toArray, List.getElem_cons_succ, List.getElem_cons_zero, Act.put, List.setIfInBounds_toArray, List.set_cons_zero, List.set_cons_succ]
    refine wpAnyH_take (i := 7) (v := ?vu8x7) rfl (by kernel_rfl) (by kernel_rfl) (by kernel_rfl) (fun _ _ _ h => h) (Or.inl ⟨by rfl, ?hyu8x7⟩) (by assumption) ?restu8x7
    case hyu8x7 => (intro w' hSw; (try dsimp only at hSw); go_simp <;> with_reducible rfl)
    try simp only [List.getElem_toArray, List.getElem_cons_succ, List.getElem_cons_zero, Act.put, List.setIfInBounds_toArray, List.set_cons_zero, List.set_cons_succ]
    refine wpAnyH_take (i := 8) (v := ?vu9x8) rfl (by kernel_rfl) (by kernel_rfl) (by kernel_rfl) (fun _ _ _ h => h) (Or.inl ⟨by rfl, ?hyu9x8⟩) (by assumption) ?restu9x8
    case hyu9x8 => (intro w' hSw; (try dsimp only at hSw); go_simp <;> with_reducible rfl)
    try simp only [List.getElem_toArray, List.getElem_cons_succ, List.getElem_cons_zero, Act.put, List.setIfInBounds_toArray, List.set_cons_zero, List.set_cons_succ]
    refine wpAnyH_take (i := 9) (v := ?vu10x9) rfl (by kernel_rfl) (by kernel_rfl) (by kernel_rfl) (fun _ _ _ h => h) (Or.inl ⟨by rfl, ?hyu10x9⟩) (by assumption) ?restu10x9
    case hyu10x9 => (intro w' hSw; (try dsimp only at hSw); go_simp <;> with_reducible rfl)
    try simp only [List.getElem_toArray, List.getElem_cons_succ, List.getElem_cons_zero, Act.put, List.setIfInBounds_toArray, List.set_cons_zero, List.set_cons_succ]
    refine wpAnyH_take (i := 10) (v := ?vu11x10) rfl (by kernel_rfl) (by kernel_rfl) (by kernel_rfl) (fun _ _ _ h => h) (Or.inl ⟨by rfl, ?hyu11x10⟩) (by assumption) ?restu11x10
    case hyu11x10 => (intro w' hSw; (try dsimp only at hSw); go_simp <;> with_reducible rfl)
    try simp only [List.getElem_toArray, List.getElem_cons_succ, List.getElem_cons_zero, Act.put, List.setIfInBounds_toArray, List.set_cons_zero, List.set_cons_succ]
    refine wpAnyH_take (i := 11) (v := ?vu12x11) rfl (by kernel_rfl) (by kernel_rfl) (by kernel_rfl) (fun _ _ _ h => h) (Or.inl ⟨by rfl, ?hyu12x11⟩) (by assumption) ?restu12x11
    case hyu12x11 => (intro w' hSw; (try dsimp only at hSw); go_simp <;> with_reducible rfl)
    try simp only [List.getElem_toArray, List.getElem_cons_succ, List.getElem_cons_zero, Act.put, List.setIfInBounds_toArray, List.set_cons_zero, List.set_cons_succ]
    refine wpAnyH_take (i := 12) (v := ?vu13x12) rfl (by kernel_rfl) (by kernel_rfl) (by kernel_rfl) (fun _ _ _ h => h) (Or.inl ⟨by rfl, ?hyu13x12⟩) (by assumption) ?restu13x12
    case hyu13x12 => (intro w' hSw; (try dsimp only at hSw); go_simp <;> with_reducible rfl)
    try simp only [List.getElem_toArray, List.getElem_cons_succ, List.getElem_cons_zero, Act.put, List.setIfInBounds_toArray, List.set_cons_zero, List.set_cons_succ]
    refine wpAnyH_take (i := 13) (v := ?vu14x13) rfl (by kernel_rfl) (by kernel_rfl) (by kernel_rfl) (fun _ _ _ h => h) (Or.inl ⟨by rfl, ?hyu14x13⟩) (by assumption) ?restu14x13
    case hyu14x13 => (intro w' hSw; (try dsimp only at hSw); go_simp <;> with_reducible rfl)
    try simp only [List.getElem_toArray, List.getElem_cons_succ, List.getElem_cons_zero, Act.put, List.setIfInBounds_toArray, List.set_cons_zero, List.set_cons_succ]
    refine wpAnyH_take (i := 14) (v := ?vu15x14) rfl (by kernel_rfl) (by kernel_rfl) (by kernel_rfl) (fun _ _ _ h => h) (Or.inl ⟨by rfl, ?hyu15x14⟩) (by assumption) ?restu15x14
    case hyu15x14 => (intro w' hSw; (try dsimp only at hSw); go_simp <;> with_reducible rfl)
    try simp only [List.getElem_toArray, List.getElem_cons_succ, List.getElem_cons_zero, Act.put, List.setIfInBounds_toArray, List.set_cons_zero, List.set_cons_succ]
    refine wpAnyH_take (i := 15) (v := .agg #[.int .u8 t.k, .int .i64 t.n, .string t.s, .slice none 0 0, .slice none 0 0]) rfl (by kernel_rfl) (by kernel_rfl) (by kernel_rfl) (fun _ _ _ h => h) (Or.inl ⟨by rfl, ?hyu16x15⟩) (by assumption) ?restu16x15
    case hyu16x15 => (intro w' hSw; kernel_rfl)
    try simp only [List.getElem_toArray, List.getElem_cons_succ, List.getElem_cons_zero, Act.put, List.setIfInBounds_toArray, List.set_cons_zero, List.set_cons_succ]
    refine wpAnyH_ready (rs := [16]) (by kernel_rfl) (by simp) ?_
    refine AllReadyH.cons rfl (fun K hK => ?_) AllReadyH.nil
    go_simp
    refine hK.out _ _ (HC3.out _ (Trm.go B0.out (below_one _ _)).drew) (fun hHeld => ?_)
    clear hK K
    try simp only [List.getElem_toArray, List.getElem_cons_succ, List.getElem_cons_zero, Act.put, List.setIfInBounds_toArray, List.set_cons_zero, List.set_cons_succ]
    refine wpAnyH_ready (rs := [17]) (by kernel_rfl) (by simp) ?_
    refine AllReadyH.cons rfl (fun K hK => ?_) AllReadyH.nil
    rw [if_pos (by kernel_rfl)]
    refine wp_store_row 26 (.tmp 6) (.tmp 30) rfl W0.heap.size _ rfl rfl 26 _ (World.alloc_heap_new W0.drew _) hinfT rfl (by kernel_rfl) ?_
    rw [show ((W0.alloc (.cells #[.int .u8 0, .int .i64 0, .string ⟨#[]⟩, .slice none 0 0, .slice none 0 0] 26)).drew).setRow W0.heap.size #[.int .u8 t.k, .int .i64 t.n, .string t.s, .slice none 0 0, .slice none 0 0] = (W0.alloc (.cells #[.int .u8 t.k, .int .i64 t.n, .string t.s, .slice none 0 0, .slice none 0 0] 26)).drew from World.setRow_alloc_new W0.drew _ _ _]
    refine hK.out _ _ (HC3.out _ (Trm.go B0.out (below_one _ _)).drew) (fun hHeld => ?_)
    clear hK K
    try simp only [List.getElem_toArray, List.getElem_cons_succ, List.getElem_cons_zero, Act.put]
    refine wpAnyH_done (by kernel_rfl) ?_ _
    clear hHeld hinfT
    obtain ⟨W1, hW1⟩ : ∃ W1, W1 = (W0.alloc (.cells #[.int .u8 t.k, .int .i64 t.n, .string t.s, .slice none 0 0, .slice none 0 0] 26)).drew := ⟨_, rfl⟩
    have B1 := Lib.hid (show Below w.heap.size w W1 from hW1 ▸ (Trm.go B0.out (below_one _ _)).drew)
    have HT1 := Lib.hid (show W1.heap[W0.heap.size]? = some (.cells #[.int .u8 t.k, .int .i64 t.n, .string t.s, .slice none 0 0, .slice none 0 0] 26) from hW1 ▸ World.alloc_heap_new W0 _)
    have HR1 := Lib.hid (show W1.heap[w.heap.size]? = some (.cells #[.int .u8 0, .int .i64 0, .string ⟨#[]⟩, .slice none 0 0, .slice none 0 0] 26) from hW1 ▸ keepA HR0.out _)
    have hz1' : W1.heap.size = W0.heap.size + 1 := by rw [hW1]; simp
    rw [← hW1]
    clear hW1 HR0
    have HTW : Hid (w.heap.size + 1 ≤ W0.heap.size) := Lib.hid (Nat.le_of_eq HZ0.out.symm)
    have hlc := HCA.out W1 B1.out 3 _ rfl
    change W1.cell? ⟨g, q * 31 + 3, none⟩ = some (.int .i64 t.ls.length) at hlc
    have hg1 : g < W1.heap.size := by have := B1.out.size; omega
    have HZ1 := Lib.hid hz1'
    clear hz1'
    by_cases hls : t.ls.length = 0
    · have hls0 : t.ls = [] := List.eq_nil_of_length_eq_zero hls
      have dl : decide ((0 : Int) < (t.ls.length : Int)) = false := decide_eq_false (by omega)
      have HLS := Lib.hid hls
      clear hls
      go_upto_region 5 with fail
      obtain ⟨tb, htb⟩ : ∃ tb, tb = W0.heap.size := ⟨_, rfl⟩
      obtain ⟨WT, hWT⟩ : ∃ WT, WT = W1 := ⟨_, rfl⟩
      obtain ⟨lo, hlo⟩ : ∃ lo : Option Addr, lo = none := ⟨_, rfl⟩
      obtain ⟨lc, hlcx⟩ : ∃ lc : Nat, lc = 0 := ⟨_, rfl⟩
      rw [← htb] at HT1 HTW ⊢
      rw [← hWT] at HT1 HR1 B1 ⊢
      have HTB : Hid (WT.heap[tb]? = some (.cells #[.int .u8 t.k, .int .i64 t.n, .string t.s, .slice lo t.ls.length lc, .slice none 0 0] 26)) := Lib.hid (by rw [HT1.out, hlo, hlcx, HLS.out])
      have HRB := Lib.hid HR1.out
      have BT := Lib.hid B1.out
      have HLO : Hid (∀ a, lo = some a → tb < a.block ∧ a.block < WT.heap.size) := Lib.hid (fun a ha => by rw [hlo] at ha; cases ha)
      have HLRT : Hid (LRow WT lo t.ls) := Lib.hid ⟨fun k hk => by rw [HLS.out] at hk; omega⟩
      have HSF : Hid (∀ a, lo = some a → Room WT a (t.ls.length * 5)) := Lib.hid (fun a ha => by rw [hlo] at ha; cases ha)
      clear hls0 dl hlc hg1 HC3 HT1 HR1 B1 hWT htb hlo hlcx HLS HZ0 HZ1 B0
      have hpc := HCA.out WT BT.out 24 _ rfl
      change WT.cell? ⟨g, q * 31 + 24, none⟩ = some (.int .i64 t.ts.length) at hpc
      have hgT : g < WT.heap.size := by have := BT.out.size; omega
      have hTT : tb < WT.heap.size := (Array.getElem?_eq_some_iff.1 HTB.out).1
      have hgb : g ≠ tb := by have := HTW.out; omega
      obtain ⟨x0, x1, x2, x3, x4⟩ := five_cells HTB.out
      refine wp_region_held_drew (S := fun w' => w'.cell? ⟨g, q * 31 + 24, none⟩ = some (.int .i64 t.ts.length)) (by kernel_rfl) (hpc) (fun hHeld => ?_)
      refine wpAnyH_take (i := 0) (v := ?vu17x0) rfl (by kernel_rfl) (by kernel_rfl) (by kernel_rfl) (fun _ _ _ h => h) (Or.inl ⟨by rfl, ?hyu17x0⟩) (by assumption) ?restu17x0
      case hyu17x0 => (intro w' hSw; (try dsimp only at hSw); go_simp <;> with_reducible rfl)
      try simp only [List.getElem_toArray, List.getElem_cons_zero, Act.put, List.setIfInBounds_toArray, List.set_cons_zero, List.set_cons_succ]
      refine wpAnyH_take (i := 2) (v := ?vu18x2) rfl (by kernel_rfl) (by kernel_rfl) (by kernel_rfl) (fun _ _ _ h => h) (Or.inl ⟨by rfl, ?hyu18x2⟩) (by assumption) ?restu18x2
      case hyu18x2 => (intro w' hSw; (try dsimp only at hSw); go_simp <;> with_reducible rfl)
      try simp only [List.getElem_toArray, List.getElem_cons_succ, List.getElem_cons_zero, Act.put, List.setIfInBounds_toArray, List.set_cons_zero, List.set_cons_succ]
      refine wpAnyH_take (i := 3) (v := ?vu19x3) rfl (by kernel_rfl) (by kernel_rfl) (by kernel_rfl) (fun _ _ _ h => h) (Or.inl ⟨by rfl, ?hyu19x3⟩) (by assumption) ?restu19x3
      case hyu19x3 => (intro w' hSw; (try dsimp only at hSw); go_simp <;> with_reducible rfl)
      try simp only [List.getElem_toArray, List.getElem_cons_succ, List.getElem_cons_zero, Act.put, List.setIfInBounds_toArray, List.set_cons_zero, List.set_cons_succ]
      refine wpAnyH_take (i := 4) (v := ?vu20x4) rfl (by kernel_rfl) (by kernel_rfl) (by kernel_rfl) (fun _ _ _ h => h) (Or.inl ⟨by rfl, ?hyu20x4⟩) (by assumption) ?restu20x4
      case hyu20x4 => (intro w' hSw; (try dsimp only at hSw); go_simp <;> with_reducible rfl)
      try simp only [List.getElem_toArray, List.getElem_cons_succ, List.getElem_cons_zero, Act.put, List.setIfInBounds_toArray, List.set_cons_zero, List.set_cons_succ]
      refine wpAnyH_take (i := 5) (v := ?vu21x5) rfl (by kernel_rfl) (by kernel_rfl) (by kernel_rfl) (fun _ _ _ h => h) (Or.inl ⟨by rfl, ?hyu21x5⟩) (by assumption) ?restu21x5
      case hyu21x5 => (intro w' hSw; (try dsimp only at hSw); go_simp <;> with_reducible rfl)
      try simp only [List.getElem_toArray, List.getElem_cons_succ, List.getElem_cons_zero, Act.put, List.setIfInBounds_toArray, List.set_cons_zero, List.set_cons_succ]
      refine wpAnyH_take (i := 6) (v := ?vu22x6) rfl (by kernel_rfl) (by kernel_rfl) (by kernel_rfl) (fun _ _ _ h => h) (Or.inl ⟨by rfl, ?hyu22x6⟩) (by assumption) ?restu22x6
      case hyu22x6 => (intro w' hSw; (try dsimp only at hSw); go_simp <;> with_reducible rfl)
      try simp only [List.getElem_toArray, List.getElem_cons_succ, List.getElem_cons_zero, Act.put, List.setIfInBounds_toArray, List.set_cons_zero, List.set_cons_succ]
      refine wpAnyH_ready (rs := [1]) (by kernel_rfl) (by simp) ?_
      refine AllReadyH.cons rfl (fun K hK => ?_) AllReadyH.nil
      go_simp
      refine hK.out _ _ (hpc) (fun hHeld => ?_)
      clear hK K
      try simp only [List.getElem_toArray, List.getElem_cons_succ, List.getElem_cons_zero, Act.put, List.setIfInBounds_toArray, List.set_cons_zero, List.set_cons_succ]
      refine wpAnyH_ready (rs := [7]) (by kernel_rfl) (by simp) ?_
      refine AllReadyH.cons rfl (fun K hK => ?_) AllReadyH.nil
      go_simp
      refine (Grow_any t.ts.length hl3 _).mono ?_
      rintro e wg ⟨ag, cg, rfl, hog, bg⟩
      have HOG := Lib.hid (show wg.ownsRow WT.heap.size 26 5 (.slice ag 0 cg) 0 [] from hog)
      have HBG := Lib.hid (show Below WT.heap.size WT wg from Lvl.undrew bg)
      clear hog bg
      dsimp only
      have hpg := (HBG.out.cell (p := ⟨g, q * 31 + 24, none⟩) hgT).trans hpc
      have hTg := Lvl.keep HBG.out HTB.out
      obtain ⟨x0, x1, x2, x3, x4⟩ := five_cells hTg
      obtain ⟨f0, f1, f2, f3, f4⟩ := five_free hTg
      refine hK.out _ _ (hpg) (fun hHeld => ?_)
      clear hK K
      try simp only [List.getElem_toArray, List.getElem_cons_succ, List.getElem_cons_zero, Act.put, List.setIfInBounds_toArray, List.set_cons_zero, List.set_cons_succ]
      refine wpAnyH_take (i := 8) (v := ?vu23x8) rfl (by kernel_rfl) (by kernel_rfl) (by kernel_rfl) (fun _ _ _ h => h) (Or.inl ⟨by rfl, ?hyu23x8⟩) (by assumption) ?restu23x8
      case hyu23x8 => (intro w' hSw; (try dsimp only at hSw); go_simp <;> with_reducible rfl)
      try simp only [List.getElem_toArray, List.getElem_cons_succ, List.getElem_cons_zero, Act.put, List.setIfInBounds_toArray, List.set_cons_zero, List.set_cons_succ]
      refine wpAnyH_ready (rs := [9]) (by kernel_rfl) (by simp) ?_
      refine AllReadyH.cons rfl (fun K hK => ?_) AllReadyH.nil
      go_simp
      refine hK.out _ _ ((cells_same5 hgb).trans hpg) (fun hHeld => ?_)
      clear hK K
      try simp only [List.getElem_toArray, List.getElem_cons_succ, List.getElem_cons_zero, Act.put, List.setIfInBounds_toArray, List.set_cons_zero, List.set_cons_succ]
      refine wpAnyH_done (by kernel_rfl) ?_ _
      clear x0 x1 x2 x3 x4 f0 f1 f2 f3 f4 hpc hpg hTg hHeld
      obtain ⟨W5, hW5⟩ : ∃ W5, W5 = (wg.setCell ⟨tb, 4, none⟩ (.slice ag 0 cg)) := ⟨_, rfl⟩
      rw [← hW5]
      have hpk : W5.cell? ⟨g, q * 31 + 24, none⟩ = some (.int .i64 t.ts.length) := by
        have h1 := HCA.out wg (Trm.go BT.out HBG.out) 24 _ rfl
        rw [hW5]; exact (cells_same5 hgb).trans h1
      have HST0 := Lib.hid (TRel.start (WT := WT) (wg := wg) (tb := tb) (vg := .slice ag 0 cg) BT.out HRB.out HTB.out HTW.out HLO.out HLRT.out HSF.out HBG.out HOG.out)
      rw [← hW5] at HST0
      have HKD := Lib.hid (kidsA_any hpk hl3)
      have HNM := Lib.hid (fun (W : World) (hW : Below w.heap.size w W) (j : Nat) (hj : j < t.ts.length) => (show W.cell? ⟨g, q * 31 + 25 + j, none⟩ = some (.int .i64 (num L t.ts[j] : Nat)) from by
        have h1 := HCA.out W hW (25 + j) (.int .i64 (num L t.ts[j] : Nat)) (by
          have := part_at (L := L) hl3 hj
          unfold nodeT
          rw [List.getElem?_append_left (by rw [show (keyT L t).length = 28 from rfl]; omega)]
          exact this)
        rw [show q * 31 + 25 + j = q * 31 + (25 + j) by omega]; exact h1))
      clear hpk hW5 HBG HOG HRB HTB HLRT HSF BT HCA hTT hgT
      obtain ⟨b0, hb0⟩ : ∃ b0, b0 = WT.heap.size := ⟨_, rfl⟩
      rw [← hb0] at HST0
      clear hb0
      go_wp2_with fail
      refine HKD.out.mono ?_
      rintro e w6 ⟨ao, cp, rfl, hao, b6⟩
      have HAO := Lib.hid hao
      have HST6 := Lib.hid (TRel.below HST0.out b6)
      clear hao b6 HKD HST0
      go_wp2_with fail
      go_loopw [61] (fun i wr => ∃ (j : Nat) (ps : List (Tm × Hd)) (vT : Value), i = .int .i64 j ∧ TRel w t tb b0 lo lc j ps vT wr) (fun i _ => t.ts.length - (intOf i).toNat)
      case atStart => exact ⟨0, [], _, rfl, HST6.out⟩
      case round =>
        obtain ⟨j, ps, vT, rfl, hst⟩ := hrel
        have HST := Lib.hid hst
        have hjl := hst.le
        clear hst
        by_cases hlt : j < t.ts.length
        · rw [HAO.out (by omega)]
          have hpj := HNM.out wr HST.out.bel j hlt
          have HIX := Lib.hid (fun (W : World) (hW : Below wr.heap.size wr W) => HIH.out _ (List.getElem_mem hlt) W A L v mo (HAR.out.below (HST.out.bel.trans (hW.mono HST.out.bel.size)) (Nat.le_refl _)) (HAR.out.ok.part HMEM.out (List.getElem_mem hlt)))
          have HTBr := Lib.hid HST.out.blk
          have HOWr := Lib.hid HST.out.own
          have HB0r := Lib.hid HST.out.b0le
          have HTBL : Hid (tb < wr.heap.size) := Lib.hid (Array.getElem?_eq_some_iff.1 HST.out.blk).1
          have HNV := Lib.hid HST.out.apart
          have hps := HST.out.len
          have hq1 : Hid (ps.length + 1 ≤ maxLen) := Lib.hid (by unfold maxLen; omega)
          have hq2 : Hid ((ps.length + 1) * 80 ≤ 140737488355328) := Lib.hid (by omega)
          obtain ⟨i0, hi, hz0, hz1, hz2⟩ := info_parts infoT
          obtain ⟨y, hy0⟩ : ∃ y, y = t.ts[j] := ⟨_, rfl⟩
          rw [← hy0] at HIX hpj
          have HYE := Lib.hid hy0
          generalize num L y = m at HIX hpj
          obtain ⟨x0, x1, x2, x3, x4⟩ := five_cells HTBr.out
          clear hps hy0
          go_upto_region 9 with fail
          refine wp_region_held_drew (S := fun _ => True) (by kernel_rfl) (trivial) (fun hHeld => ?_)
          refine wpAnyH_take (i := 0) (v := ?vu24x0) rfl (by kernel_rfl) (by kernel_rfl) (by kernel_rfl) (fun _ _ _ h => h) (Or.inl ⟨by rfl, ?hyu24x0⟩) (by assumption) ?restu24x0
          case hyu24x0 => (intro w' hSw; (try dsimp only at hSw); go_simp <;> with_reducible rfl)
          try simp only [List.getElem_toArray, List.getElem_cons_zero, Act.put, List.setIfInBounds_toArray, List.set_cons_zero, List.set_cons_succ]
          refine wpAnyH_take (i := 2) (v := ?vu25x2) rfl (by kernel_rfl) (by kernel_rfl) (by kernel_rfl) (fun _ _ _ h => h) (Or.inl ⟨by rfl, ?hyu25x2⟩) (by assumption) ?restu25x2
          case hyu25x2 => (intro w' hSw; (try dsimp only at hSw); go_simp <;> with_reducible rfl)
          try simp only [List.getElem_toArray, List.getElem_cons_succ, List.getElem_cons_zero, Act.put, List.setIfInBounds_toArray, List.set_cons_zero, List.set_cons_succ]
          refine wpAnyH_take (i := 3) (v := ?vu26x3) rfl (by kernel_rfl) (by kernel_rfl) (by kernel_rfl) (fun _ _ _ h => h) (Or.inl ⟨by rfl, ?hyu26x3⟩) (by assumption) ?restu26x3
          case hyu26x3 => (intro w' hSw; (try dsimp only at hSw); go_simp <;> with_reducible rfl)
          try simp only [List.getElem_toArray, List.getElem_cons_succ, List.getElem_cons_zero, Act.put, List.setIfInBounds_toArray, List.set_cons_zero, List.set_cons_succ]
          refine wpAnyH_ready (rs := [1, 4]) (by kernel_rfl) (by simp) ?_
          refine AllReadyH.cons rfl (fun K hK => ?_) (AllReadyH.cons rfl (fun K hK => ?_) AllReadyH.nil)
          · go_simp
            refine hK.out _ _ (trivial) (fun hHeld => ?_)
            clear hK K
            try simp only [List.getElem_toArray, List.getElem_cons_succ, List.getElem_cons_zero, Act.put, List.setIfInBounds_toArray, List.set_cons_zero, List.set_cons_succ]
            refine wpAnyH_ready (rs := [4]) (by kernel_rfl) (by simp) ?_
            refine AllReadyH.cons rfl (fun K hK => ?_) AllReadyH.nil
            go_simp
            refine (HIX.out _ (Below.refl _ _).drew).mono ?_
            rintro e w4 ⟨hy, rfl, fy, b4⟩
            have HB4 := Lib.hid (show Below wr.heap.size wr w4 from Lvl.undrew b4)
            have HFY := Lib.hid (show OwnT wr.heap.size w4 y hy from fy)
            clear b4 fy
            dsimp only [Tm.val, Tm.vals]
            obtain ⟨x0, x1, x2, x3, x4⟩ := five_cells (Lvl.keep HB4.out HTBr.out)
            refine hK.out _ _ (trivial) (fun hHeld => ?_)
            clear hK K
            try simp only [List.getElem_toArray, List.getElem_cons_succ, List.getElem_cons_zero, Act.put, List.setIfInBounds_toArray, List.set_cons_zero, List.set_cons_succ]
            refine wpAnyH_ready (rs := [5]) (by kernel_rfl) (by simp) ?_
            refine AllReadyH.cons rfl (fun K hK => ?_) AllReadyH.nil
            go_simp
            obtain ⟨x0, x1, x2, x3, x4⟩ := five_cells (keepA (Lvl.keep HB4.out HTBr.out) (.cells #[.int .u8 y.k, .int .i64 y.n, .string y.s, .slice hy.lo y.ls.length hy.lc, .slice hy.to y.ts.length hy.tc] 26))
            refine hK.out _ _ (trivial) (fun hHeld => ?_)
            clear hK K
            try simp only [List.getElem_toArray, List.getElem_cons_succ, List.getElem_cons_zero, Act.put, List.setIfInBounds_toArray, List.set_cons_zero, List.set_cons_succ]
            refine wpAnyH_ready (rs := [6]) (by kernel_rfl) (by simp) ?_
            refine AllReadyH.cons rfl (fun K hK => ?_) AllReadyH.nil
            refine step_append_lies _ (by rfl) _ _ _ (by rfl) b0 26 i0 _ 5 80 Try.underlying22 hi hz0 hz1 hz2 rfl (by decide) _ _ _ (by rfl) ((own_below5 HOWr.out HB4.out).alloc _) ⟨w4.heap.size, 0, none⟩ 1 1 (y.vals hy).toList (by rfl) (by rfl) (World.news_of_block (cs := y.vals hy) (t := 26) (fr := (0, 0)) (World.alloc_heap_new w4 _)) (vals_one y hy) Nat.one_pos hq1.out hq2.out (by rw [World.size_alloc]; have := HB4.out.size; have := HB0r.out; omega) (w4.heap.size + 1) (World.size_alloc _ _) ?_
            intro g1 cap1 w5 hown5 hgrow5 hat5 hlt5
            have HO5 := Lib.hid hown5
            have HG5 := Lib.hid hgrow5
            have HAT5 := Lib.hid hat5
            clear hown5 hgrow5 hat5
            have htb5 := (HG5.out.block tb (by rw [World.size_alloc]; have := HB4.out.size; have := HTBL.out; omega) HNV.out).trans (keepA (Lvl.keep HB4.out HTBr.out) (.cells #[.int .u8 y.k, .int .i64 y.n, .string y.s, .slice hy.lo y.ls.length hy.lc, .slice hy.to y.ts.length hy.tc] 26))
            obtain ⟨x0, x1, x2, x3, x4⟩ := five_cells htb5
            obtain ⟨f0, f1, f2, f3, f4⟩ := five_free htb5
            refine hK.out _ _ (trivial) (fun hHeld => ?_)
            clear hK K
            try simp only [List.getElem_toArray, List.getElem_cons_succ, List.getElem_cons_zero, Act.put, List.setIfInBounds_toArray, List.set_cons_zero, List.set_cons_succ]
            refine wpAnyH_take (i := 7) (v := ?vu27x7) rfl (by kernel_rfl) (by kernel_rfl) (by kernel_rfl) (fun _ _ _ h => h) (Or.inl ⟨by rfl, ?hyu27x7⟩) (by assumption) ?restu27x7
            case hyu27x7 => (intro w' hSw; (try dsimp only at hSw); go_simp <;> with_reducible rfl)
            try simp only [List.getElem_toArray, List.getElem_cons_succ, List.getElem_cons_zero, Act.put, List.setIfInBounds_toArray, List.set_cons_zero, List.set_cons_succ]
            refine wpAnyH_ready (rs := [8]) (by kernel_rfl) (by simp) ?_
            refine AllReadyH.cons rfl (fun K hK => ?_) AllReadyH.nil
            go_simp
            refine hK.out _ _ (trivial) (fun hHeld => ?_)
            clear hK K
            try simp only [List.getElem_toArray, List.getElem_cons_succ, List.getElem_cons_zero, Act.put, List.setIfInBounds_toArray, List.set_cons_zero, List.set_cons_succ]
            refine wpAnyH_done (by kernel_rfl) ?_ _
            have HNX := Lib.hid (TRel.step HST.out hlt HYE.out HB4.out HFY.out HO5.out HG5.out HAT5.out)
            have hwj : IntKind.i64.wrap ((j : Int) + 1) = (j : Int) + 1 := IntWalk.i64_in _ (by omega)
            go_wp2_with fail
            go_roundw
            case rel => exact ⟨j + 1, _, _, by go_num, HNX.out⟩
            case measure => simp [intOf]; omega
          · go_simp
            refine (HIX.out _ (Below.refl _ _).drew).mono ?_
            rintro e w4 ⟨hy, rfl, fy, b4⟩
            have HB4 := Lib.hid (show Below wr.heap.size wr w4 from Lvl.undrew b4)
            have HFY := Lib.hid (show OwnT wr.heap.size w4 y hy from fy)
            clear b4 fy
            dsimp only [Tm.val, Tm.vals]
            obtain ⟨x0, x1, x2, x3, x4⟩ := five_cells (Lvl.keep HB4.out HTBr.out)
            refine hK.out _ _ (trivial) (fun hHeld => ?_)
            clear hK K
            try simp only [List.getElem_toArray, List.getElem_cons_succ, List.getElem_cons_zero, Act.put, List.setIfInBounds_toArray, List.set_cons_zero, List.set_cons_succ]
            refine wpAnyH_ready (rs := [1, 5]) (by kernel_rfl) (by simp) ?_
            refine AllReadyH.cons rfl (fun K hK => ?_) (AllReadyH.cons rfl (fun K hK => ?_) AllReadyH.nil)
            · go_simp
              refine hK.out _ _ (trivial) (fun hHeld => ?_)
              clear hK K
              try simp only [List.getElem_toArray, List.getElem_cons_succ, List.getElem_cons_zero, Act.put, List.setIfInBounds_toArray, List.set_cons_zero, List.set_cons_succ]
              refine wpAnyH_ready (rs := [5]) (by kernel_rfl) (by simp) ?_
              refine AllReadyH.cons rfl (fun K hK => ?_) AllReadyH.nil
              go_simp
              obtain ⟨x0, x1, x2, x3, x4⟩ := five_cells (keepA (Lvl.keep HB4.out HTBr.out) (.cells #[.int .u8 y.k, .int .i64 y.n, .string y.s, .slice hy.lo y.ls.length hy.lc, .slice hy.to y.ts.length hy.tc] 26))
              refine hK.out _ _ (trivial) (fun hHeld => ?_)
              clear hK K
              try simp only [List.getElem_toArray, List.getElem_cons_succ, List.getElem_cons_zero, Act.put, List.setIfInBounds_toArray, List.set_cons_zero, List.set_cons_succ]
              refine wpAnyH_ready (rs := [6]) (by kernel_rfl) (by simp) ?_
              refine AllReadyH.cons rfl (fun K hK => ?_) AllReadyH.nil
              refine step_append_lies _ (by rfl) _ _ _ (by rfl) b0 26 i0 _ 5 80 Try.underlying22 hi hz0 hz1 hz2 rfl (by decide) _ _ _ (by rfl) ((own_below5 HOWr.out HB4.out).alloc _) ⟨w4.heap.size, 0, none⟩ 1 1 (y.vals hy).toList (by rfl) (by rfl) (World.news_of_block (cs := y.vals hy) (t := 26) (fr := (0, 0)) (World.alloc_heap_new w4 _)) (vals_one y hy) Nat.one_pos hq1.out hq2.out (by rw [World.size_alloc]; have := HB4.out.size; have := HB0r.out; omega) (w4.heap.size + 1) (World.size_alloc _ _) ?_
              intro g1 cap1 w5 hown5 hgrow5 hat5 hlt5
              have HO5 := Lib.hid hown5
              have HG5 := Lib.hid hgrow5
              have HAT5 := Lib.hid hat5
              clear hown5 hgrow5 hat5
              have htb5 := (HG5.out.block tb (by rw [World.size_alloc]; have := HB4.out.size; have := HTBL.out; omega) HNV.out).trans (keepA (Lvl.keep HB4.out HTBr.out) (.cells #[.int .u8 y.k, .int .i64 y.n, .string y.s, .slice hy.lo y.ls.length hy.lc, .slice hy.to y.ts.length hy.tc] 26))
              obtain ⟨x0, x1, x2, x3, x4⟩ := five_cells htb5
              obtain ⟨f0, f1, f2, f3, f4⟩ := five_free htb5
              refine hK.out _ _ (trivial) (fun hHeld => ?_)
              clear hK K
              try simp only [List.getElem_toArray, List.getElem_cons_succ, List.getElem_cons_zero, Act.put, List.setIfInBounds_toArray, List.set_cons_zero, List.set_cons_succ]
              refine wpAnyH_take (i := 7) (v := ?vu28x7) rfl (by kernel_rfl) (by kernel_rfl) (by kernel_rfl) (fun _ _ _ h => h) (Or.inl ⟨by rfl, ?hyu28x7⟩) (by assumption) ?restu28x7
              case hyu28x7 => (intro w' hSw; (try dsimp only at hSw); go_simp <;> with_reducible rfl)
              try simp only [List.getElem_toArray, List.getElem_cons_succ, List.getElem_cons_zero, Act.put, List.setIfInBounds_toArray, List.set_cons_zero, List.set_cons_succ]
              refine wpAnyH_ready (rs := [8]) (by kernel_rfl) (by simp) ?_
              refine AllReadyH.cons rfl (fun K hK => ?_) AllReadyH.nil
              go_simp
              refine hK.out _ _ (trivial) (fun hHeld => ?_)
              clear hK K
              try simp only [List.getElem_toArray, List.getElem_cons_succ, List.getElem_cons_zero, Act.put, List.setIfInBounds_toArray, List.set_cons_zero, List.set_cons_succ]
              refine wpAnyH_done (by kernel_rfl) ?_ _
              have HNX := Lib.hid (TRel.step HST.out hlt HYE.out HB4.out HFY.out HO5.out HG5.out HAT5.out)
              have hwj : IntKind.i64.wrap ((j : Int) + 1) = (j : Int) + 1 := IntWalk.i64_in _ (by omega)
              go_wp2_with fail
              go_roundw
              case rel => exact ⟨j + 1, _, _, by go_num, HNX.out⟩
              case measure => simp [intOf]; omega
            · go_simp
              obtain ⟨x0, x1, x2, x3, x4⟩ := five_cells (keepA (Lvl.keep HB4.out HTBr.out) (.cells #[.int .u8 y.k, .int .i64 y.n, .string y.s, .slice hy.lo y.ls.length hy.lc, .slice hy.to y.ts.length hy.tc] 26))
              refine hK.out _ _ (trivial) (fun hHeld => ?_)
              clear hK K
              try simp only [List.getElem_toArray, List.getElem_cons_succ, List.getElem_cons_zero, Act.put, List.setIfInBounds_toArray, List.set_cons_zero, List.set_cons_succ]
              refine wpAnyH_ready (rs := [1]) (by kernel_rfl) (by simp) ?_
              refine AllReadyH.cons rfl (fun K hK => ?_) AllReadyH.nil
              go_simp
              refine hK.out _ _ (trivial) (fun hHeld => ?_)
              clear hK K
              try simp only [List.getElem_toArray, List.getElem_cons_succ, List.getElem_cons_zero, Act.put, List.setIfInBounds_toArray, List.set_cons_zero, List.set_cons_succ]
              refine wpAnyH_ready (rs := [6]) (by kernel_rfl) (by simp) ?_
              refine AllReadyH.cons rfl (fun K hK => ?_) AllReadyH.nil
              refine step_append_lies _ (by rfl) _ _ _ (by rfl) b0 26 i0 _ 5 80 Try.underlying22 hi hz0 hz1 hz2 rfl (by decide) _ _ _ (by rfl) ((own_below5 HOWr.out HB4.out).alloc _) ⟨w4.heap.size, 0, none⟩ 1 1 (y.vals hy).toList (by rfl) (by rfl) (World.news_of_block (cs := y.vals hy) (t := 26) (fr := (0, 0)) (World.alloc_heap_new w4 _)) (vals_one y hy) Nat.one_pos hq1.out hq2.out (by rw [World.size_alloc]; have := HB4.out.size; have := HB0r.out; omega) (w4.heap.size + 1) (World.size_alloc _ _) ?_
              intro g1 cap1 w5 hown5 hgrow5 hat5 hlt5
              have HO5 := Lib.hid hown5
              have HG5 := Lib.hid hgrow5
              have HAT5 := Lib.hid hat5
              clear hown5 hgrow5 hat5
              have htb5 := (HG5.out.block tb (by rw [World.size_alloc]; have := HB4.out.size; have := HTBL.out; omega) HNV.out).trans (keepA (Lvl.keep HB4.out HTBr.out) (.cells #[.int .u8 y.k, .int .i64 y.n, .string y.s, .slice hy.lo y.ls.length hy.lc, .slice hy.to y.ts.length hy.tc] 26))
              obtain ⟨x0, x1, x2, x3, x4⟩ := five_cells htb5
              obtain ⟨f0, f1, f2, f3, f4⟩ := five_free htb5
              refine hK.out _ _ (trivial) (fun hHeld => ?_)
              clear hK K
              try simp only [List.getElem_toArray, List.getElem_cons_succ, List.getElem_cons_zero, Act.put, List.setIfInBounds_toArray, List.set_cons_zero, List.set_cons_succ]
              refine wpAnyH_take (i := 7) (v := ?vu29x7) rfl (by kernel_rfl) (by kernel_rfl) (by kernel_rfl) (fun _ _ _ h => h) (Or.inl ⟨by rfl, ?hyu29x7⟩) (by assumption) ?restu29x7
              case hyu29x7 => (intro w' hSw; (try dsimp only at hSw); go_simp <;> with_reducible rfl)
              try simp only [List.getElem_toArray, List.getElem_cons_succ, List.getElem_cons_zero, Act.put, List.setIfInBounds_toArray, List.set_cons_zero, List.set_cons_succ]
              refine wpAnyH_ready (rs := [8]) (by kernel_rfl) (by simp) ?_
              refine AllReadyH.cons rfl (fun K hK => ?_) AllReadyH.nil
              go_simp
              refine hK.out _ _ (trivial) (fun hHeld => ?_)
              clear hK K
              try simp only [List.getElem_toArray, List.getElem_cons_succ, List.getElem_cons_zero, Act.put, List.setIfInBounds_toArray, List.set_cons_zero, List.set_cons_succ]
              refine wpAnyH_done (by kernel_rfl) ?_ _
              have HNX := Lib.hid (TRel.step HST.out hlt HYE.out HB4.out HFY.out HO5.out HG5.out HAT5.out)
              have hwj : IntKind.i64.wrap ((j : Int) + 1) = (j : Int) + 1 := IntWalk.i64_in _ (by omega)
              go_wp2_with fail
              go_roundw
              case rel => exact ⟨j + 1, _, _, by go_num, HNX.out⟩
              case measure => simp [intOf]; omega
        · obtain ⟨x0, x1, x2, x3, x4⟩ := five_cells HST.out.blk
          obtain ⟨y0, y1, y2, y3, y4⟩ := five_cells HST.out.rb
          obtain ⟨f0, f1, f2, f3, f4⟩ := five_free HST.out.rb
          obtain ⟨to, tc, rfl, hfirm, hsp⟩ := TRel.final HST.out (by omega) HMAY.out
          have HFI := Lib.hid hfirm
          have HSP := Lib.hid hsp
          clear hsp
          have HRBx := Lib.hid HST.out.rb
          have HBW := Lib.hid HST.out.bel
          clear hfirm
          go_wp2_with fail
          have h5 := putT_self HRBx.out (.int .u8 t.k) (.int .i64 t.n) (.string t.s) (.slice lo t.ls.length lc) (.slice to t.ts.length tc)
          have b5 := putT_below HBW.out (Nat.le_refl _) (.int .u8 t.k) (.int .i64 t.n) (.string t.s) (.slice lo t.ls.length lc) (.slice to t.ts.length tc)
          have r5 := putT_ran5 wr w.heap.size (.int .u8 t.k) (.int .i64 t.n) (.string t.s) (.slice lo t.ls.length lc) (.slice to t.ts.length tc)
          unfold putT at h5 b5 r5
          obtain ⟨e0, e1, e2, e3, e4⟩ := five_cells h5
          exact bodyPost_ret (v := t.val ⟨lo, lc, to, tc⟩) (by simp [results, Try.results34, go_sem, e0, e1, e2, e3, e4, Tm.val, Tm.vals]) rfl ⟨_, rfl, ⟨FirmS.turn (P := fun z => z < w.heap.size + 1) HFI.out r5 (fun z hz => Or.inl (Nat.lt_succ_of_lt hz)), (Tm.Sp.ran r5 _ _ _ _ HSP.out (fun q hq hh => by have hq' : q < w.heap.size + 1 := hq; omega)).mono (Nat.le_succ _) r5.size⟩, b5⟩
    · have dl : decide ((0 : Int) < (t.ls.length : Int)) = true := decide_eq_true (by omega)
      have HRW := Lib.hid (fun (W : World) (hW : Below w.heap.size w W) => (show LRow W (some ⟨g, q * 31 + 4, none⟩) t.ls from node_row hl4 (HCA.out W hW)))
      have HCL := Lib.hid (fun (W : World) (hW : Below W1.heap.size W1 W) => CloneL_any t.ls ⟨g, q * 31 + 4, none⟩ 4 W (HRW.out W (Trm.go B1.out hW)) (by omega) hl4)
      go_upto_region 4 with fail
      have hgb : g ≠ W0.heap.size := by have := HTW.out; omega
      have hl4i : (t.ls.length : Int) ≤ 4 := by omega
      refine wp_region_held_drew (S := fun w' => w'.cell? ⟨g, q * 31 + 3, none⟩ = some (.int .i64 t.ls.length)) (by kernel_rfl) (hlc) (fun hHeld => ?_)
      refine wpAnyH_take (i := 0) (v := ?vu30x0) rfl (by kernel_rfl) (by kernel_rfl) (by kernel_rfl) (fun _ _ _ h => h) (Or.inl ⟨by rfl, ?hyu30x0⟩) (by assumption) ?restu30x0
      case hyu30x0 => (intro w' hSw; (try dsimp only at hSw); go_simp <;> with_reducible rfl)
      try simp only [List.getElem_toArray, List.getElem_cons_zero, Act.put, List.setIfInBounds_toArray, List.set_cons_zero, List.set_cons_succ]
      refine wpAnyH_take (i := 1) (v := ?vu31x1) rfl (by kernel_rfl) (by kernel_rfl) (by kernel_rfl) (fun _ _ _ h => h) (Or.inl ⟨by rfl, ?hyu31x1⟩) (by assumption) ?restu31x1
      case hyu31x1 => (intro w' hSw; (try dsimp only at hSw); go_simp <;> with_reducible rfl)
      try simp only [List.getElem_toArray, List.getElem_cons_succ, List.getElem_cons_zero, Act.put, List.setIfInBounds_toArray, List.set_cons_zero, List.set_cons_succ]
      refine wpAnyH_take (i := 2) (v := ?vu32x2) rfl (by kernel_rfl) (by kernel_rfl) (by kernel_rfl) (fun _ _ _ h => h) (Or.inl ⟨by rfl, ?hyu32x2⟩) (by assumption) ?restu32x2
      case hyu32x2 => (intro w' hSw; (try dsimp only at hSw); go_simp <;> with_reducible rfl)
      try simp only [List.getElem_toArray, List.getElem_cons_succ, List.getElem_cons_zero, Act.put, List.setIfInBounds_toArray, List.set_cons_zero, List.set_cons_succ]
      refine wpAnyH_take (i := 3) (v := ?vu33x3) rfl (by kernel_rfl) (by kernel_rfl) (by kernel_rfl) (fun _ _ _ h => h) (Or.inl ⟨by rfl, ?hyu33x3⟩) (by assumption) ?restu33x3
      case hyu33x3 => (intro w' hSw; (try dsimp only at hSw); go_simp <;> with_reducible rfl)
      try simp only [List.getElem_toArray, List.getElem_cons_succ, List.getElem_cons_zero, Act.put, List.setIfInBounds_toArray, List.set_cons_zero, List.set_cons_succ]
      refine wpAnyH_take (i := 4) (v := ?vu34x4) rfl (by kernel_rfl) (by kernel_rfl) (by kernel_rfl) (fun _ _ _ h => h) (Or.inl ⟨by rfl, ?hyu34x4⟩) (by assumption) ?restu34x4
      case hyu34x4 => (intro w' hSw; (try dsimp only at hSw); go_simp <;> with_reducible rfl)
      try simp only [List.getElem_toArray, List.getElem_cons_succ, List.getElem_cons_zero, Act.put, List.setIfInBounds_toArray, List.set_cons_zero, List.set_cons_succ]
      refine wpAnyH_take (i := 5) (v := ?vu35x5) rfl (by kernel_rfl) (by kernel_rfl) (by kernel_rfl) (fun _ _ _ h => h) (Or.inl ⟨by rfl, ?hyu35x5⟩) (by assumption) ?restu35x5
      case hyu35x5 => (intro w' hSw; (try dsimp only at hSw); go_simp <;> with_reducible rfl)
      try simp only [List.getElem_toArray, List.getElem_cons_succ, List.getElem_cons_zero, Act.put, List.setIfInBounds_toArray, List.set_cons_zero, List.set_cons_succ]
      refine wpAnyH_take (i := 6) (v := ?vu36x6) rfl (by kernel_rfl) (by kernel_rfl) (by kernel_rfl) (fun _ _ _ h => h) (Or.inl ⟨by rfl, ?hyu36x6⟩) (by assumption) ?restu36x6
      case hyu36x6 => (intro w' hSw; (try dsimp only at hSw); go_simp <;> with_reducible rfl)
      try simp only [List.getElem_toArray, List.getElem_cons_succ, List.getElem_cons_zero, Act.put, List.setIfInBounds_toArray, List.set_cons_zero, List.set_cons_succ]
      refine wpAnyH_take (i := 7) (v := ?vu37x7) rfl (by kernel_rfl) (by kernel_rfl) (by kernel_rfl) (fun _ _ _ h => h) (Or.inl ⟨by rfl, ?hyu37x7⟩) (by assumption) ?restu37x7
      case hyu37x7 => (intro w' hSw; (try dsimp only at hSw); go_simp <;> with_reducible rfl)
      try simp only [List.getElem_toArray, List.getElem_cons_succ, List.getElem_cons_zero, Act.put, List.setIfInBounds_toArray, List.set_cons_zero, List.set_cons_succ]
      refine wpAnyH_take (i := 8) (v := ?vu38x8) rfl (by kernel_rfl) (by kernel_rfl) (by kernel_rfl) (fun _ _ _ h => h) (Or.inl ⟨by rfl, ?hyu38x8⟩) (by assumption) ?restu38x8
      case hyu38x8 => (intro w' hSw; (try dsimp only at hSw); go_simp <;> with_reducible rfl)
      try simp only [List.getElem_toArray, List.getElem_cons_succ, List.getElem_cons_zero, Act.put, List.setIfInBounds_toArray, List.set_cons_zero, List.set_cons_succ]
      refine wpAnyH_take (i := 9) (v := ?vu39x9) rfl (by kernel_rfl) (by kernel_rfl) (by kernel_rfl) (fun _ _ _ h => h) (Or.inl ⟨by rfl, ?hyu39x9⟩) (by assumption) ?restu39x9
      case hyu39x9 => (intro w' hSw; (try dsimp only at hSw); go_simp <;> with_reducible rfl)
      try simp only [List.getElem_toArray, List.getElem_cons_succ, List.getElem_cons_zero, Act.put, List.setIfInBounds_toArray, List.set_cons_zero, List.set_cons_succ]
      refine wpAnyH_ready (rs := [10]) (by kernel_rfl) (by simp) ?_
      refine AllReadyH.cons rfl (fun K hK => ?_) AllReadyH.nil
      go_simp
      refine (HCL.out _ (Below.refl _ _).drew).mono ?_
      rintro e wl ⟨lo, lc, rfl, hrl, hll, bl⟩
      have HBL := Lib.hid (show Below W1.heap.size W1 wl from Lvl.undrew bl)
      have HRL := Lib.hid hrl
      have HLL := Lib.hid (show ∀ x, lo = some x → W1.heap.size ≤ x.block ∧ x.block < wl.heap.size ∧ Room wl x (t.ls.length * 5) from hll)
      clear bl hrl hll
      dsimp only
      have hlg := (HBL.out.cell (p := ⟨g, q * 31 + 3, none⟩) hg1).trans hlc
      have hTl := Lvl.keep HBL.out HT1.out
      obtain ⟨x0, x1, x2, x3, x4⟩ := five_cells hTl
      obtain ⟨f0, f1, f2, f3, f4⟩ := five_free hTl
      refine hK.out _ _ (hlg) (fun hHeld => ?_)
      clear hK K
      try simp only [List.getElem_toArray, List.getElem_cons_succ, List.getElem_cons_zero, Act.put, List.setIfInBounds_toArray, List.set_cons_zero, List.set_cons_succ]
      refine wpAnyH_take (i := 11) (v := ?vu40x11) rfl (by kernel_rfl) (by kernel_rfl) (by kernel_rfl) (fun _ _ _ h => h) (Or.inl ⟨by rfl, ?hyu40x11⟩) (by assumption) ?restu40x11
      case hyu40x11 => (intro w' hSw; (try dsimp only at hSw); go_simp <;> with_reducible rfl)
      try simp only [List.getElem_toArray, List.getElem_cons_succ, List.getElem_cons_zero, Act.put, List.setIfInBounds_toArray, List.set_cons_zero, List.set_cons_succ]
      refine wpAnyH_ready (rs := [12]) (by kernel_rfl) (by simp) ?_
      refine AllReadyH.cons rfl (fun K hK => ?_) AllReadyH.nil
      go_simp
      refine hK.out _ _ ((cells_same5 hgb).trans hlg) (fun hHeld => ?_)
      clear hK K
      try simp only [List.getElem_toArray, List.getElem_cons_succ, List.getElem_cons_zero, Act.put, List.setIfInBounds_toArray, List.set_cons_zero, List.set_cons_succ]
      refine wpAnyH_done (by kernel_rfl) ?_ _
      obtain ⟨tb, htb⟩ : ∃ tb, tb = W0.heap.size := ⟨_, rfl⟩
      obtain ⟨WT, hWT⟩ : ∃ WT, WT = wl.setCell ⟨tb, 3, none⟩ (.slice lo t.ls.length lc) := ⟨_, rfl⟩
      rw [← htb]
      rw [← hWT]
      clear x0 x1 x2 x3 x4 f0 f1 f2 f3 f4 hHeld hgb
      rw [← htb] at HT1 HTW
      have hTl2 := Lvl.keep HBL.out HT1.out
      have hsz : WT.heap.size = wl.heap.size := by rw [hWT]; simp [World.setCell]
      have htl1 : tb < W1.heap.size := (Array.getElem?_eq_some_iff.1 HT1.out).1
      have HTB : Hid (WT.heap[tb]? = some (.cells #[.int .u8 t.k, .int .i64 t.n, .string t.s, .slice lo t.ls.length lc, .slice none 0 0] 26)) := Lib.hid (by
        rw [hWT]
        have := cells_set (i := 3) hTl2 (.slice lo t.ls.length lc)
        simpa using this)
      have HRB : Hid (WT.heap[w.heap.size]? = some (.cells #[.int .u8 0, .int .i64 0, .string ⟨#[]⟩, .slice none 0 0, .slice none 0 0] 26)) := Lib.hid (by
        rw [hWT]
        exact cells_other (Lvl.keep HBL.out HR1.out) _ (by have := HTW.out; omega))
      have BT : Hid (Below w.heap.size w WT) := Lib.hid (by rw [hWT]; exact (Trm.go B1.out HBL.out).setCell (by show w.heap.size ≤ tb; have := HTW.out; omega) _)
      have HLO : Hid (∀ a, lo = some a → tb < a.block ∧ a.block < WT.heap.size) := Lib.hid (fun a ha => by rw [hsz]; have := HLL.out a ha; omega)
      have HLRT : Hid (LRow WT lo t.ls) := Lib.hid (by
        rw [hWT]
        exact row_keep HRL.out fun a ha => RowKit.Below.heap_setCell _ _ _ _ (show a.block ≠ tb by have := HLL.out a ha; omega))
      have HSF : Hid (∀ a, lo = some a → Room WT a (t.ls.length * 5)) := Lib.hid (fun a ha => by rw [hWT]; exact (HLL.out a ha).2.2.set _ _ _)
      clear dl hlc hg1 HC3 HT1 HR1 B1 hWT htb HZ0 HZ1 B0 HCL HRW hTl hTl2 hlg hsz htl1 HBL HRL HLL hls hl4i
      go_upto_region 5 with fail
      have hpc := HCA.out WT BT.out 24 _ rfl
      change WT.cell? ⟨g, q * 31 + 24, none⟩ = some (.int .i64 t.ts.length) at hpc
      have hgT : g < WT.heap.size := by have := BT.out.size; omega
      have hTT : tb < WT.heap.size := (Array.getElem?_eq_some_iff.1 HTB.out).1
      have hgb : g ≠ tb := by have := HTW.out; omega
      obtain ⟨x0, x1, x2, x3, x4⟩ := five_cells HTB.out
      refine wp_region_held_drew (S := fun w' => w'.cell? ⟨g, q * 31 + 24, none⟩ = some (.int .i64 t.ts.length)) (by kernel_rfl) (hpc) (fun hHeld => ?_)
      refine wpAnyH_take (i := 0) (v := ?vu41x0) rfl (by kernel_rfl) (by kernel_rfl) (by kernel_rfl) (fun _ _ _ h => h) (Or.inl ⟨by rfl, ?hyu41x0⟩) (by assumption) ?restu41x0
      case hyu41x0 => (intro w' hSw; (try dsimp only at hSw); go_simp <;> with_reducible rfl)
      try simp only [List.getElem_toArray, List.getElem_cons_zero, Act.put, List.setIfInBounds_toArray, List.set_cons_zero, List.set_cons_succ]
      refine wpAnyH_take (i := 2) (v := ?vu42x2) rfl (by kernel_rfl) (by kernel_rfl) (by kernel_rfl) (fun _ _ _ h => h) (Or.inl ⟨by rfl, ?hyu42x2⟩) (by assumption) ?restu42x2
      case hyu42x2 => (intro w' hSw; (try dsimp only at hSw); go_simp <;> with_reducible rfl)
      try simp only [List.getElem_toArray, List.getElem_cons_succ, List.getElem_cons_zero, Act.put, List.setIfInBounds_toArray, List.set_cons_zero, List.set_cons_succ]
      refine wpAnyH_take (i := 3) (v := ?vu43x3) rfl (by kernel_rfl) (by kernel_rfl) (by kernel_rfl) (fun _ _ _ h => h) (Or.inl ⟨by rfl, ?hyu43x3⟩) (by assumption) ?restu43x3
      case hyu43x3 => (intro w' hSw; (try dsimp only at hSw); go_simp <;> with_reducible rfl)
      try simp only [List.getElem_toArray, List.getElem_cons_succ, List.getElem_cons_zero, Act.put, List.setIfInBounds_toArray, List.set_cons_zero, List.set_cons_succ]
      refine wpAnyH_take (i := 4) (v := ?vu44x4) rfl (by kernel_rfl) (by kernel_rfl) (by kernel_rfl) (fun _ _ _ h => h) (Or.inl ⟨by rfl, ?hyu44x4⟩) (by assumption) ?restu44x4
      case hyu44x4 => (intro w' hSw; (try dsimp only at hSw); go_simp <;> with_reducible rfl)
      try simp only [List.getElem_toArray, List.getElem_cons_succ, List.getElem_cons_zero, Act.put, List.setIfInBounds_toArray, List.set_cons_zero, List.set_cons_succ]
      refine wpAnyH_take (i := 5) (v := ?vu45x5) rfl (by kernel_rfl) (by kernel_rfl) (by kernel_rfl) (fun _ _ _ h => h) (Or.inl ⟨by rfl, ?hyu45x5⟩) (by assumption) ?restu45x5
      case hyu45x5 => (intro w' hSw; (try dsimp only at hSw); go_simp <;> with_reducible rfl)
      try simp only [List.getElem_toArray, List.getElem_cons_succ, List.getElem_cons_zero, Act.put, List.setIfInBounds_toArray, List.set_cons_zero, List.set_cons_succ]
      refine wpAnyH_take (i := 6) (v := ?vu46x6) rfl (by kernel_rfl) (by kernel_rfl) (by kernel_rfl) (fun _ _ _ h => h) (Or.inl ⟨by rfl, ?hyu46x6⟩) (by assumption) ?restu46x6
      case hyu46x6 => (intro w' hSw; (try dsimp only at hSw); go_simp <;> with_reducible rfl)
      try simp only [List.getElem_toArray, List.getElem_cons_succ, List.getElem_cons_zero, Act.put, List.setIfInBounds_toArray, List.set_cons_zero, List.set_cons_succ]
      refine wpAnyH_ready (rs := [1]) (by kernel_rfl) (by simp) ?_
      refine AllReadyH.cons rfl (fun K hK => ?_) AllReadyH.nil
      go_simp
      refine hK.out _ _ (hpc) (fun hHeld => ?_)
      clear hK K
      try simp only [List.getElem_toArray, List.getElem_cons_succ, List.getElem_cons_zero, Act.put, List.setIfInBounds_toArray, List.set_cons_zero, List.set_cons_succ]
      refine wpAnyH_ready (rs := [7]) (by kernel_rfl) (by simp) ?_
      refine AllReadyH.cons rfl (fun K hK => ?_) AllReadyH.nil
      go_simp
      refine (Grow_any t.ts.length hl3 _).mono ?_
      rintro e wg ⟨ag, cg, rfl, hog, bg⟩
      have HOG := Lib.hid (show wg.ownsRow WT.heap.size 26 5 (.slice ag 0 cg) 0 [] from hog)
      have HBG := Lib.hid (show Below WT.heap.size WT wg from Lvl.undrew bg)
      clear hog bg
      dsimp only
      have hpg := (HBG.out.cell (p := ⟨g, q * 31 + 24, none⟩) hgT).trans hpc
      have hTg := Lvl.keep HBG.out HTB.out
      obtain ⟨x0, x1, x2, x3, x4⟩ := five_cells hTg
      obtain ⟨f0, f1, f2, f3, f4⟩ := five_free hTg
      refine hK.out _ _ (hpg) (fun hHeld => ?_)
      clear hK K
      try simp only [List.getElem_toArray, List.getElem_cons_succ, List.getElem_cons_zero, Act.put, List.setIfInBounds_toArray, List.set_cons_zero, List.set_cons_succ]
      refine wpAnyH_take (i := 8) (v := ?vu47x8) rfl (by kernel_rfl) (by kernel_rfl) (by kernel_rfl) (fun _ _ _ h => h) (Or.inl ⟨by rfl, ?hyu47x8⟩) (by assumption) ?restu47x8
      case hyu47x8 => (intro w' hSw; (try dsimp only at hSw); go_simp <;> with_reducible rfl)
      try simp only [List.getElem_toArray, List.getElem_cons_succ, List.getElem_cons_zero, Act.put, List.setIfInBounds_toArray, List.set_cons_zero, List.set_cons_succ]
      refine wpAnyH_ready (rs := [9]) (by kernel_rfl) (by simp) ?_
      refine AllReadyH.cons rfl (fun K hK => ?_) AllReadyH.nil
      go_simp
      refine hK.out _ _ ((cells_same5 hgb).trans hpg) (fun hHeld => ?_)
      clear hK K
      try simp only [List.getElem_toArray, List.getElem_cons_succ, List.getElem_cons_zero, Act.put, List.setIfInBounds_toArray, List.set_cons_zero, List.set_cons_succ]
      refine wpAnyH_done (by kernel_rfl) ?_ _
      clear x0 x1 x2 x3 x4 f0 f1 f2 f3 f4 hpc hpg hTg hHeld
      obtain ⟨W5, hW5⟩ : ∃ W5, W5 = (wg.setCell ⟨tb, 4, none⟩ (.slice ag 0 cg)) := ⟨_, rfl⟩
      rw [← hW5]
      have hpk : W5.cell? ⟨g, q * 31 + 24, none⟩ = some (.int .i64 t.ts.length) := by
        have h1 := HCA.out wg (Trm.go BT.out HBG.out) 24 _ rfl
        rw [hW5]; exact (cells_same5 hgb).trans h1
      have HST0 := Lib.hid (TRel.start (WT := WT) (wg := wg) (tb := tb) (vg := .slice ag 0 cg) BT.out HRB.out HTB.out HTW.out HLO.out HLRT.out HSF.out HBG.out HOG.out)
      rw [← hW5] at HST0
      have HKD := Lib.hid (kidsA_any hpk hl3)
      have HNM := Lib.hid (fun (W : World) (hW : Below w.heap.size w W) (j : Nat) (hj : j < t.ts.length) => (show W.cell? ⟨g, q * 31 + 25 + j, none⟩ = some (.int .i64 (num L t.ts[j] : Nat)) from by
        have h1 := HCA.out W hW (25 + j) (.int .i64 (num L t.ts[j] : Nat)) (by
          have := part_at (L := L) hl3 hj
          unfold nodeT
          rw [List.getElem?_append_left (by rw [show (keyT L t).length = 28 from rfl]; omega)]
          exact this)
        rw [show q * 31 + 25 + j = q * 31 + (25 + j) by omega]; exact h1))
      clear hpk hW5 HBG HOG HRB HTB HLRT HSF BT HCA hTT hgT
      obtain ⟨b0, hb0⟩ : ∃ b0, b0 = WT.heap.size := ⟨_, rfl⟩
      rw [← hb0] at HST0
      clear hb0
      go_wp2_with fail
      refine HKD.out.mono ?_
      rintro e w6 ⟨ao, cp, rfl, hao, b6⟩
      have HAO := Lib.hid hao
      have HST6 := Lib.hid (TRel.below HST0.out b6)
      clear hao b6 HKD HST0
      go_wp2_with fail
      go_loopw [61] (fun i wr => ∃ (j : Nat) (ps : List (Tm × Hd)) (vT : Value), i = .int .i64 j ∧ TRel w t tb b0 lo lc j ps vT wr) (fun i _ => t.ts.length - (intOf i).toNat)
      case atStart => exact ⟨0, [], _, rfl, HST6.out⟩
      case round =>
        obtain ⟨j, ps, vT, rfl, hst⟩ := hrel
        have HST := Lib.hid hst
        have hjl := hst.le
        clear hst
        by_cases hlt : j < t.ts.length
        · rw [HAO.out (by omega)]
          have hpj := HNM.out wr HST.out.bel j hlt
          have HIX := Lib.hid (fun (W : World) (hW : Below wr.heap.size wr W) => HIH.out _ (List.getElem_mem hlt) W A L v mo (HAR.out.below (HST.out.bel.trans (hW.mono HST.out.bel.size)) (Nat.le_refl _)) (HAR.out.ok.part HMEM.out (List.getElem_mem hlt)))
          have HTBr := Lib.hid HST.out.blk
          have HOWr := Lib.hid HST.out.own
          have HB0r := Lib.hid HST.out.b0le
          have HTBL : Hid (tb < wr.heap.size) := Lib.hid (Array.getElem?_eq_some_iff.1 HST.out.blk).1
          have HNV := Lib.hid HST.out.apart
          have hps := HST.out.len
          have hq1 : Hid (ps.length + 1 ≤ maxLen) := Lib.hid (by unfold maxLen; omega)
          have hq2 : Hid ((ps.length + 1) * 80 ≤ 140737488355328) := Lib.hid (by omega)
          obtain ⟨i0, hi, hz0, hz1, hz2⟩ := info_parts infoT
          obtain ⟨y, hy0⟩ : ∃ y, y = t.ts[j] := ⟨_, rfl⟩
          rw [← hy0] at HIX hpj
          have HYE := Lib.hid hy0
          generalize num L y = m at HIX hpj
          obtain ⟨x0, x1, x2, x3, x4⟩ := five_cells HTBr.out
          clear hps hy0
          go_upto_region 9 with fail
          refine wp_region_held_drew (S := fun _ => True) (by kernel_rfl) (trivial) (fun hHeld => ?_)
          refine wpAnyH_take (i := 0) (v := ?vu48x0) rfl (by kernel_rfl) (by kernel_rfl) (by kernel_rfl) (fun _ _ _ h => h) (Or.inl ⟨by rfl, ?hyu48x0⟩) (by assumption) ?restu48x0
          case hyu48x0 => (intro w' hSw; (try dsimp only at hSw); go_simp <;> with_reducible rfl)
          try simp only [List.getElem_toArray, List.getElem_cons_zero, Act.put, List.setIfInBounds_toArray, List.set_cons_zero, List.set_cons_succ]
          refine wpAnyH_take (i := 2) (v := ?vu49x2) rfl (by kernel_rfl) (by kernel_rfl) (by kernel_rfl) (fun _ _ _ h => h) (Or.inl ⟨by rfl, ?hyu49x2⟩) (by assumption) ?restu49x2
          case hyu49x2 => (intro w' hSw; (try dsimp only at hSw); go_simp <;> with_reducible rfl)
          try simp only [List.getElem_toArray, List.getElem_cons_succ, List.getElem_cons_zero, Act.put, List.setIfInBounds_toArray, List.set_cons_zero, List.set_cons_succ]
          refine wpAnyH_take (i := 3) (v := ?vu50x3) rfl (by kernel_rfl) (by kernel_rfl) (by kernel_rfl) (fun _ _ _ h => h) (Or.inl ⟨by rfl, ?hyu50x3⟩) (by assumption) ?restu50x3
          case hyu50x3 => (intro w' hSw; (try dsimp only at hSw); go_simp <;> with_reducible rfl)
          try simp only [List.getElem_toArray, List.getElem_cons_succ, List.getElem_cons_zero, Act.put, List.setIfInBounds_toArray, List.set_cons_zero, List.set_cons_succ]
          refine wpAnyH_ready (rs := [1, 4]) (by kernel_rfl) (by simp) ?_
          refine AllReadyH.cons rfl (fun K hK => ?_) (AllReadyH.cons rfl (fun K hK => ?_) AllReadyH.nil)
          · go_simp
            refine hK.out _ _ (trivial) (fun hHeld => ?_)
            clear hK K
            try simp only [List.getElem_toArray, List.getElem_cons_succ, List.getElem_cons_zero, Act.put, List.setIfInBounds_toArray, List.set_cons_zero, List.set_cons_succ]
            refine wpAnyH_ready (rs := [4]) (by kernel_rfl) (by simp) ?_
            refine AllReadyH.cons rfl (fun K hK => ?_) AllReadyH.nil
            go_simp
            refine (HIX.out _ (Below.refl _ _).drew).mono ?_
            rintro e w4 ⟨hy, rfl, fy, b4⟩
            have HB4 := Lib.hid (show Below wr.heap.size wr w4 from Lvl.undrew b4)
            have HFY := Lib.hid (show OwnT wr.heap.size w4 y hy from fy)
            clear b4 fy
            dsimp only [Tm.val, Tm.vals]
            obtain ⟨x0, x1, x2, x3, x4⟩ := five_cells (Lvl.keep HB4.out HTBr.out)
            refine hK.out _ _ (trivial) (fun hHeld => ?_)
            clear hK K
            try simp only [List.getElem_toArray, List.getElem_cons_succ, List.getElem_cons_zero, Act.put, List.setIfInBounds_toArray, List.set_cons_zero, List.set_cons_succ]
            refine wpAnyH_ready (rs := [5]) (by kernel_rfl) (by simp) ?_
            refine AllReadyH.cons rfl (fun K hK => ?_) AllReadyH.nil
            go_simp
            obtain ⟨x0, x1, x2, x3, x4⟩ := five_cells (keepA (Lvl.keep HB4.out HTBr.out) (.cells #[.int .u8 y.k, .int .i64 y.n, .string y.s, .slice hy.lo y.ls.length hy.lc, .slice hy.to y.ts.length hy.tc] 26))
            refine hK.out _ _ (trivial) (fun hHeld => ?_)
            clear hK K
            try simp only [List.getElem_toArray, List.getElem_cons_succ, List.getElem_cons_zero, Act.put, List.setIfInBounds_toArray, List.set_cons_zero, List.set_cons_succ]
            refine wpAnyH_ready (rs := [6]) (by kernel_rfl) (by simp) ?_
            refine AllReadyH.cons rfl (fun K hK => ?_) AllReadyH.nil
            refine step_append_lies _ (by rfl) _ _ _ (by rfl) b0 26 i0 _ 5 80 Try.underlying22 hi hz0 hz1 hz2 rfl (by decide) _ _ _ (by rfl) ((own_below5 HOWr.out HB4.out).alloc _) ⟨w4.heap.size, 0, none⟩ 1 1 (y.vals hy).toList (by rfl) (by rfl) (World.news_of_block (cs := y.vals hy) (t := 26) (fr := (0, 0)) (World.alloc_heap_new w4 _)) (vals_one y hy) Nat.one_pos hq1.out hq2.out (by rw [World.size_alloc]; have := HB4.out.size; have := HB0r.out; omega) (w4.heap.size + 1) (World.size_alloc _ _) ?_
            intro g1 cap1 w5 hown5 hgrow5 hat5 hlt5
            have HO5 := Lib.hid hown5
            have HG5 := Lib.hid hgrow5
            have HAT5 := Lib.hid hat5
            clear hown5 hgrow5 hat5
            have htb5 := (HG5.out.block tb (by rw [World.size_alloc]; have := HB4.out.size; have := HTBL.out; omega) HNV.out).trans (keepA (Lvl.keep HB4.out HTBr.out) (.cells #[.int .u8 y.k, .int .i64 y.n, .string y.s, .slice hy.lo y.ls.length hy.lc, .slice hy.to y.ts.length hy.tc] 26))
            obtain ⟨x0, x1, x2, x3, x4⟩ := five_cells htb5
            obtain ⟨f0, f1, f2, f3, f4⟩ := five_free htb5
            refine hK.out _ _ (trivial) (fun hHeld => ?_)
            clear hK K
            try simp only [List.getElem_toArray, List.getElem_cons_succ, List.getElem_cons_zero, Act.put, List.setIfInBounds_toArray, List.set_cons_zero, List.set_cons_succ]
            refine wpAnyH_take (i := 7) (v := ?vu51x7) rfl (by kernel_rfl) (by kernel_rfl) (by kernel_rfl) (fun _ _ _ h => h) (Or.inl ⟨by rfl, ?hyu51x7⟩) (by assumption) ?restu51x7
            case hyu51x7 => (intro w' hSw; (try dsimp only at hSw); go_simp <;> with_reducible rfl)
            try simp only [List.getElem_toArray, List.getElem_cons_succ, List.getElem_cons_zero, Act.put, List.setIfInBounds_toArray, List.set_cons_zero, List.set_cons_succ]
            refine wpAnyH_ready (rs := [8]) (by kernel_rfl) (by simp) ?_
            refine AllReadyH.cons rfl (fun K hK => ?_) AllReadyH.nil
            go_simp
            refine hK.out _ _ (trivial) (fun hHeld => ?_)
            clear hK K
            try simp only [List.getElem_toArray, List.getElem_cons_succ, List.getElem_cons_zero, Act.put, List.setIfInBounds_toArray, List.set_cons_zero, List.set_cons_succ]
            refine wpAnyH_done (by kernel_rfl) ?_ _
            have HNX := Lib.hid (TRel.step HST.out hlt HYE.out HB4.out HFY.out HO5.out HG5.out HAT5.out)
            have hwj : IntKind.i64.wrap ((j : Int) + 1) = (j : Int) + 1 := IntWalk.i64_in _ (by omega)
            go_wp2_with fail
            go_roundw
            case rel => exact ⟨j + 1, _, _, by go_num, HNX.out⟩
            case measure => simp [intOf]; omega
          · go_simp
            refine (HIX.out _ (Below.refl _ _).drew).mono ?_
            rintro e w4 ⟨hy, rfl, fy, b4⟩
            have HB4 := Lib.hid (show Below wr.heap.size wr w4 from Lvl.undrew b4)
            have HFY := Lib.hid (show OwnT wr.heap.size w4 y hy from fy)
            clear b4 fy
            dsimp only [Tm.val, Tm.vals]
            obtain ⟨x0, x1, x2, x3, x4⟩ := five_cells (Lvl.keep HB4.out HTBr.out)
            refine hK.out _ _ (trivial) (fun hHeld => ?_)
            clear hK K
            try simp only [List.getElem_toArray, List.getElem_cons_succ, List.getElem_cons_zero, Act.put, List.setIfInBounds_toArray, List.set_cons_zero, List.set_cons_succ]
            refine wpAnyH_ready (rs := [1, 5]) (by kernel_rfl) (by simp) ?_
            refine AllReadyH.cons rfl (fun K hK => ?_) (AllReadyH.cons rfl (fun K hK => ?_) AllReadyH.nil)
            · go_simp
              refine hK.out _ _ (trivial) (fun hHeld => ?_)
              clear hK K
              try simp only [List.getElem_toArray, List.getElem_cons_succ, List.getElem_cons_zero, Act.put, List.setIfInBounds_toArray, List.set_cons_zero, List.set_cons_succ]
              refine wpAnyH_ready (rs := [5]) (by kernel_rfl) (by simp) ?_
              refine AllReadyH.cons rfl (fun K hK => ?_) AllReadyH.nil
              go_simp
              obtain ⟨x0, x1, x2, x3, x4⟩ := five_cells (keepA (Lvl.keep HB4.out HTBr.out) (.cells #[.int .u8 y.k, .int .i64 y.n, .string y.s, .slice hy.lo y.ls.length hy.lc, .slice hy.to y.ts.length hy.tc] 26))
              refine hK.out _ _ (trivial) (fun hHeld => ?_)
              clear hK K
              try simp only [List.getElem_toArray, List.getElem_cons_succ, List.getElem_cons_zero, Act.put, List.setIfInBounds_toArray, List.set_cons_zero, List.set_cons_succ]
              refine wpAnyH_ready (rs := [6]) (by kernel_rfl) (by simp) ?_
              refine AllReadyH.cons rfl (fun K hK => ?_) AllReadyH.nil
              refine step_append_lies _ (by rfl) _ _ _ (by rfl) b0 26 i0 _ 5 80 Try.underlying22 hi hz0 hz1 hz2 rfl (by decide) _ _ _ (by rfl) ((own_below5 HOWr.out HB4.out).alloc _) ⟨w4.heap.size, 0, none⟩ 1 1 (y.vals hy).toList (by rfl) (by rfl) (World.news_of_block (cs := y.vals hy) (t := 26) (fr := (0, 0)) (World.alloc_heap_new w4 _)) (vals_one y hy) Nat.one_pos hq1.out hq2.out (by rw [World.size_alloc]; have := HB4.out.size; have := HB0r.out; omega) (w4.heap.size + 1) (World.size_alloc _ _) ?_
              intro g1 cap1 w5 hown5 hgrow5 hat5 hlt5
              have HO5 := Lib.hid hown5
              have HG5 := Lib.hid hgrow5
              have HAT5 := Lib.hid hat5
              clear hown5 hgrow5 hat5
              have htb5 := (HG5.out.block tb (by rw [World.size_alloc]; have := HB4.out.size; have := HTBL.out; omega) HNV.out).trans (keepA (Lvl.keep HB4.out HTBr.out) (.cells #[.int .u8 y.k, .int .i64 y.n, .string y.s, .slice hy.lo y.ls.length hy.lc, .slice hy.to y.ts.length hy.tc] 26))
              obtain ⟨x0, x1, x2, x3, x4⟩ := five_cells htb5
              obtain ⟨f0, f1, f2, f3, f4⟩ := five_free htb5
              refine hK.out _ _ (trivial) (fun hHeld => ?_)
              clear hK K
              try simp only [List.getElem_toArray, List.getElem_cons_succ, List.getElem_cons_zero, Act.put, List.setIfInBounds_toArray, List.set_cons_zero, List.set_cons_succ]
              refine wpAnyH_take (i := 7) (v := ?vu52x7) rfl (by kernel_rfl) (by kernel_rfl) (by kernel_rfl) (fun _ _ _ h => h) (Or.inl ⟨by rfl, ?hyu52x7⟩) (by assumption) ?restu52x7
              case hyu52x7 => (intro w' hSw; (try dsimp only at hSw); go_simp <;> with_reducible rfl)
              try simp only [List.getElem_toArray, List.getElem_cons_succ, List.getElem_cons_zero, Act.put, List.setIfInBounds_toArray, List.set_cons_zero, List.set_cons_succ]
              refine wpAnyH_ready (rs := [8]) (by kernel_rfl) (by simp) ?_
              refine AllReadyH.cons rfl (fun K hK => ?_) AllReadyH.nil
              go_simp
              refine hK.out _ _ (trivial) (fun hHeld => ?_)
              clear hK K
              try simp only [List.getElem_toArray, List.getElem_cons_succ, List.getElem_cons_zero, Act.put, List.setIfInBounds_toArray, List.set_cons_zero, List.set_cons_succ]
              refine wpAnyH_done (by kernel_rfl) ?_ _
              have HNX := Lib.hid (TRel.step HST.out hlt HYE.out HB4.out HFY.out HO5.out HG5.out HAT5.out)
              have hwj : IntKind.i64.wrap ((j : Int) + 1) = (j : Int) + 1 := IntWalk.i64_in _ (by omega)
              go_wp2_with fail
              go_roundw
              case rel => exact ⟨j + 1, _, _, by go_num, HNX.out⟩
              case measure => simp [intOf]; omega
            · go_simp
              obtain ⟨x0, x1, x2, x3, x4⟩ := five_cells (keepA (Lvl.keep HB4.out HTBr.out) (.cells #[.int .u8 y.k, .int .i64 y.n, .string y.s, .slice hy.lo y.ls.length hy.lc, .slice hy.to y.ts.length hy.tc] 26))
              refine hK.out _ _ (trivial) (fun hHeld => ?_)
              clear hK K
              try simp only [List.getElem_toArray, List.getElem_cons_succ, List.getElem_cons_zero, Act.put, List.setIfInBounds_toArray, List.set_cons_zero, List.set_cons_succ]
              refine wpAnyH_ready (rs := [1]) (by kernel_rfl) (by simp) ?_
              refine AllReadyH.cons rfl (fun K hK => ?_) AllReadyH.nil
              go_simp
              refine hK.out _ _ (trivial) (fun hHeld => ?_)
              clear hK K
              try simp only [List.getElem_toArray, List.getElem_cons_succ, List.getElem_cons_zero, Act.put, List.setIfInBounds_toArray, List.set_cons_zero, List.set_cons_succ]
              refine wpAnyH_ready (rs := [6]) (by kernel_rfl) (by simp) ?_
              refine AllReadyH.cons rfl (fun K hK => ?_) AllReadyH.nil
              refine step_append_lies _ (by rfl) _ _ _ (by rfl) b0 26 i0 _ 5 80 Try.underlying22 hi hz0 hz1 hz2 rfl (by decide) _ _ _ (by rfl) ((own_below5 HOWr.out HB4.out).alloc _) ⟨w4.heap.size, 0, none⟩ 1 1 (y.vals hy).toList (by rfl) (by rfl) (World.news_of_block (cs := y.vals hy) (t := 26) (fr := (0, 0)) (World.alloc_heap_new w4 _)) (vals_one y hy) Nat.one_pos hq1.out hq2.out (by rw [World.size_alloc]; have := HB4.out.size; have := HB0r.out; omega) (w4.heap.size + 1) (World.size_alloc _ _) ?_
              intro g1 cap1 w5 hown5 hgrow5 hat5 hlt5
              have HO5 := Lib.hid hown5
              have HG5 := Lib.hid hgrow5
              have HAT5 := Lib.hid hat5
              clear hown5 hgrow5 hat5
              have htb5 := (HG5.out.block tb (by rw [World.size_alloc]; have := HB4.out.size; have := HTBL.out; omega) HNV.out).trans (keepA (Lvl.keep HB4.out HTBr.out) (.cells #[.int .u8 y.k, .int .i64 y.n, .string y.s, .slice hy.lo y.ls.length hy.lc, .slice hy.to y.ts.length hy.tc] 26))
              obtain ⟨x0, x1, x2, x3, x4⟩ := five_cells htb5
              obtain ⟨f0, f1, f2, f3, f4⟩ := five_free htb5
              refine hK.out _ _ (trivial) (fun hHeld => ?_)
              clear hK K
              try simp only [List.getElem_toArray, List.getElem_cons_succ, List.getElem_cons_zero, Act.put, List.setIfInBounds_toArray, List.set_cons_zero, List.set_cons_succ]
              refine wpAnyH_take (i := 7) (v := ?vu53x7) rfl (by kernel_rfl) (by kernel_rfl) (by kernel_rfl) (fun _ _ _ h => h) (Or.inl ⟨by rfl, ?hyu53x7⟩) (by assumption) ?restu53x7
              case hyu53x7 => (intro w' hSw; (try dsimp only at hSw); go_simp <;> with_reducible rfl)
              try simp only [List.getElem_toArray, List.getElem_cons_succ, List.getElem_cons_zero, Act.put, List.setIfInBounds_toArray, List.set_cons_zero, List.set_cons_succ]
              refine wpAnyH_ready (rs := [8]) (by kernel_rfl) (by simp) ?_
              refine AllReadyH.cons rfl (fun K hK => ?_) AllReadyH.nil
              go_simp
              refine hK.out _ _ (trivial) (fun hHeld => ?_)
              clear hK K
              try simp only [List.getElem_toArray, List.getElem_cons_succ, List.getElem_cons_zero, Act.put, List.setIfInBounds_toArray, List.set_cons_zero, List.set_cons_succ]
              refine wpAnyH_done (by kernel_rfl) ?_ _
              have HNX := Lib.hid (TRel.step HST.out hlt HYE.out HB4.out HFY.out HO5.out HG5.out HAT5.out)
              have hwj : IntKind.i64.wrap ((j : Int) + 1) = (j : Int) + 1 := IntWalk.i64_in _ (by omega)
              go_wp2_with fail
              go_roundw
              case rel => exact ⟨j + 1, _, _, by go_num, HNX.out⟩
              case measure => simp [intOf]; omega
        · obtain ⟨x0, x1, x2, x3, x4⟩ := five_cells HST.out.blk
          obtain ⟨y0, y1, y2, y3, y4⟩ := five_cells HST.out.rb
          obtain ⟨f0, f1, f2, f3, f4⟩ := five_free HST.out.rb
          obtain ⟨to, tc, rfl, hfirm, hsp⟩ := TRel.final HST.out (by omega) HMAY.out
          have HFI := Lib.hid hfirm
          have HSP := Lib.hid hsp
          clear hsp
          have HRBx := Lib.hid HST.out.rb
          have HBW := Lib.hid HST.out.bel
          clear hfirm
          go_wp2_with fail
          have h5 := putT_self HRBx.out (.int .u8 t.k) (.int .i64 t.n) (.string t.s) (.slice lo t.ls.length lc) (.slice to t.ts.length tc)
          have b5 := putT_below HBW.out (Nat.le_refl _) (.int .u8 t.k) (.int .i64 t.n) (.string t.s) (.slice lo t.ls.length lc) (.slice to t.ts.length tc)
          have r5 := putT_ran5 wr w.heap.size (.int .u8 t.k) (.int .i64 t.n) (.string t.s) (.slice lo t.ls.length lc) (.slice to t.ts.length tc)
          unfold putT at h5 b5 r5
          obtain ⟨e0, e1, e2, e3, e4⟩ := five_cells h5
          exact bodyPost_ret (v := t.val ⟨lo, lc, to, tc⟩) (by simp [results, Try.results34, go_sem, e0, e1, e2, e3, e4, Tm.val, Tm.vals]) rfl ⟨_, rfl, ⟨FirmS.turn (P := fun z => z < w.heap.size + 1) HFI.out r5 (fun z hz => Or.inl (Nat.lt_succ_of_lt hz)), (Tm.Sp.ran r5 _ _ _ _ HSP.out (fun q hq hh => by have hq' : q < w.heap.size + 1 := hq; omega)).mono (Nat.le_succ _) r5.size⟩, b5⟩
end Go.Proofs.Ytjicdmohnfcflaa

