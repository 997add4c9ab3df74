/-
  What arena.add makes of an arena.
-/
import Derived.Test.YtjicdmohnfcflaaQArnMem
import Derived.Deep.AppendLies
import Derived.Laws.CopyOwn
namespace Go.Proofs.Ytjicdmohnfcflaa
open Go.RowKit Go.Shelf Go.Maps Lvl Trm
namespace Arn
theorem flat_snoc {L : List Tm} (h : OkL L) {t : Tm} (hp : ∀ y ∈ t.ts, y ∈ L) : (L ++ [t]).flatMap (nodeT (L ++ [t])) = L.flatMap (nodeT L) ++ nodeT L t := by
  have e1 : L.map (nodeT (L ++ [t])) = L.map (nodeT L) := List.map_congr_left fun x hx => nodeT_prefix (List.prefix_append _ _) (fun y hy => h.part hx hy)
  have e2 : nodeT (L ++ [t]) t = nodeT L t := nodeT_prefix (List.prefix_append _ _) hp
  rw [List.flatMap_append, List.flatMap_def, e1, ← List.flatMap_def, List.flatMap_cons, List.flatMap_nil, List.append_nil, e2]
theorem kls_snoc {L : List Tm} (h : OkL L) {t : Tm} (hp : ∀ y ∈ t.ts, y ∈ L) : (L ++ [t]).map (kl (L ++ [t])) = L.map (kl L) ++ [kl L t] := by
  have e1 : L.map (kl (L ++ [t])) = L.map (kl L) := List.map_congr_left fun x hx => kl_prefix (List.prefix_append _ _) (fun y hy => h.part hx hy)
  have e2 : kl (L ++ [t]) t = kl L t := kl_prefix (List.prefix_append _ _) hp
  rw [List.map_append, e1, List.map_cons, List.map_nil, e2]
theorem kl_mem {L : List Tm} (h : OkL L) {t : Tm} (hm : t.may = true) (hp : ∀ y ∈ t.ts, y ∈ L) (hf : L.length ≤ 1000000) : kl L t ∈ L.map (kl L) ↔ t ∈ L := by
  constructor
  · intro hk
    obtain ⟨x, hx, e⟩ := List.mem_map.1 hk
    rw [← kl_inj (may_node (h.may x hx)) (may_node hm) hf (fun y hy => h.part hx hy) hp e]
    exact hx
  · exact fun hx => List.mem_map_of_mem hx
theorem grown_ran {P : Nat → Prop} {w w' : World} {row : Option Nat} (h : w.grownBy w' row) (hP : ∀ q, row = some q → P q) : RanS P w w' :=
  ⟨h.os, h.tape, h.output, h.size, fun k hk hn => h.block k hk (fun e => hn (hP k e.symm))⟩
theorem set_ran {P : Nat → Prop} (w : World) (b i : Nat) (v : Value) (hP : P b) : RanS P w (w.setCell ⟨b, i, none⟩ v) :=
  ⟨rfl, rfl, rfl, by simp [World.setCell], fun k hk hn => by
    have e : b ≠ k := fun e => hn (e ▸ hP)
    simp [World.setCell, Array.getElem?_modify, e]⟩
set_option maxRecDepth 100000 in
theorem add_done {w W4 W5 wc w6 : World} {A : Nat} {L : List Tm} {v : Value} {mo : Option Nat} {m g' cap' : Nat} {D : DataW Unit} {t : Tm} (h0 : Ar w A L v mo) (hm : t.may = true) (hp : ∀ y ∈ t.ts, y ∈ L) (hn : t ∉ L) (hf : L.length ≤ 200000)
    (HB4 : ArB W4 A L v (some m)) (hm4 : own A v mo m ∨ w.heap.size ≤ m) (R4 : RanS (own A v mo) w W4) (htied : Tied D (L.map (kl L))) (g5 : W4.grownBy W5 (some m)) (hmap4 : ∃ es c, W4.heap[m]? = some (.map es c))
    (hown5 : W5.ownsMap Try.prog 73 (plainElem Try.prog 3) m (L.length + 1) (D.put (kl L t) (.lit (.int .i64 L.length)))) (bc : Below W5.heap.size W5 wc)
    (hown6 : w6.ownsRow 0 75 31 (.slice (some ⟨g', 0, none⟩) (L.length + 1) cap') (L.length + 1) (L.flatMap (nodeT L) ++ nodeT L t)) (g6 : (wc.alloc (.cells (nodeT L t).toArray 75)).grownBy w6 v.ownBlock)
    (hat : v.ownBlock = some g' ∨ g' = wc.heap.size + 1) (hlt : g' < w6.heap.size) :
    Moved A v mo (L ++ [t]) w (w6.setCell ⟨A, 0, none⟩ (.slice (some ⟨g', 0, none⟩) (L.length + 1) cap')) := by
  have hf2 : L.length ≤ 1000000 := Nat.le_trans hf (by decide)
  have hkey : WideAt.IsKeyLit (kl L t) := kl_key (may_node hm) hf2
  have hkn : kl L t ∉ L.map (kl L) := fun hk => hn ((kl_mem h0.ok hm hp hf2).1 hk)
  have hAlt4 : A < W4.heap.size := (Array.getElem?_eq_some_iff.1 HB4.box).1
  obtain ⟨es, cl, hmb⟩ := hmap4
  have hmlt4 : m < W4.heap.size := (Array.getElem?_eq_some_iff.1 hmb).1
  have hmA : m ≠ A := fun e => by rw [e, HB4.box] at hmb; simp at hmb
  have hmv : v.ownBlock ≠ some m := fun e => by
    rcases HB4.row.2 with ⟨hv, _⟩ | ⟨g, cap, cur, hv, _, hg, _⟩
    · rw [hv] at e; simp [Value.ownBlock] at e
    · rw [hv] at e
      simp [Value.ownBlock] at e
      subst e
      rw [hmb] at hg
      simp at hg
  have s5 := g5.size
  have sc := bc.size
  have s6 := g6.size
  rw [World.size_alloc] at s6
  have hgA : g' ≠ A := by
    rcases hat with h | h
    · exact fun e => HB4.apart (e ▸ h)
    · omega
  have hgm : g' ≠ m := by
    rcases hat with h | h
    · exact fun e => hmv (e ▸ h)
    · omega
  have r5 : RanS (own A v (some m)) W4 W5 := grown_ran g5 (fun q e => by injection e with e; subst e; exact Or.inr (Or.inr rfl))
  have r6 : RanS (own A v (some m)) W5 w6 := ((RanS.of_below bc).trans (RanS.of_below (below_one _ _))).trans (grown_ran g6 (fun q e => Or.inr (Or.inl e)))
  have bA6 : w6.heap[A]? = some (.cells #[v, .map (some m)] 56) := by
    rw [g6.block A (by rw [World.size_alloc]; omega) (fun e => HB4.apart e.symm), (below_one wc _).block A (by omega), bc.block A (by omega), g5.block A hAlt4 (fun e => hmA (by injection e with e; exact e.symm))]
    exact HB4.box
  have hown7 := ownsMap_same hown5 (w' := w6.setCell ⟨A, 0, none⟩ (.slice (some ⟨g', 0, none⟩) (L.length + 1) cap')) (by
    rw [show (w6.setCell ⟨A, 0, none⟩ (.slice (some ⟨g', 0, none⟩) (L.length + 1) cap')).heap[m]? = w6.heap[m]? from RowKit.Below.heap_setCell _ _ _ _ hmA]
    rw [g6.block m (by rw [World.size_alloc]; omega) (fun e => hmv e.symm), (below_one wc _).block m (by omega), bc.block m (by omega)])
  have hlen : (L ++ [t]).length = L.length + 1 := by simp
  have hcol : ∀ q, own A (.slice (some ⟨g', 0, none⟩) (L.length + 1) cap') (some m) q → q < w6.heap.size := by
    rintro q (rfl | hq | hq)
    · omega
    · simp [Value.ownBlock] at hq; omega
    · injection hq with e; omega
  refine ⟨.slice (some ⟨g', 0, none⟩) (L.length + 1) cap', some m, ⟨⟨?_, ?_, ?_, h0.ok.snoc hm hn hp⟩, ?_⟩, ?_, ?_⟩
  · simp [World.setCell, Array.getElem?_modify, bA6]
  · rw [hlen, flat_snoc h0.ok hp]
    refine ownsRow_same hown6 fun q hq => ?_
    simp [Value.ownBlock] at hq
    subst hq
    exact RowKit.Below.heap_setCell _ _ _ _ hgA
  · simp [Value.ownBlock, hgA]
  · refine Or.inr ⟨m, _, rfl, by rw [hlen]; exact hown7, ?_⟩
    rw [kls_snoc h0.ok hp]
    have := htied.snoc hkey hkn
    rwa [List.length_map] at this
  · intro q hq
    have hql := hcol q hq
    have hsz : (w6.setCell ⟨A, 0, none⟩ (.slice (some ⟨g', 0, none⟩) (L.length + 1) cap')).heap.size = w6.heap.size := by simp [World.setCell]
    rw [hsz]
    have sw := R4.size
    rcases hq with rfl | hq | hq
    · exact Or.inl (Or.inl rfl)
    · simp [Value.ownBlock] at hq
      subst hq
      rcases hat with h | h
      · exact Or.inl (Or.inr (Or.inl h))
      · exact Or.inr ⟨by omega, hql⟩
    · injection hq with e
      subst e
      exact hm4.imp id (fun h => ⟨h, hql⟩)
  · refine ranS_go (P' := own A v (some m)) R4 ((r5.trans r6).trans (set_ran _ _ _ _ (Or.inl rfl))) ?_
    rintro q (rfl | hq | hq)
    · exact Or.inl (Or.inl rfl)
    · exact Or.inl (Or.inr (Or.inl hq))
    · injection hq with e
      subst e
      exact hm4
end Arn
end Go.Proofs.Ytjicdmohnfcflaa

