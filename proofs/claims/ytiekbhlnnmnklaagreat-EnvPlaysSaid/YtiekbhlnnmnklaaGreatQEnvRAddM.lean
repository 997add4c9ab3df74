/-
 The document's environment in memory,and what adding to it leaves.
-/
import Derived.Lib.Hide
import Derived.Test.YtiekbhlnnmnklaaGreatQEnvRCheck
import Derived.Test.YtiekbhlnnmnklaaGreatQB29
import Derived.Test.YtiekbhlnnmnklaaGreatQB23
open Go.Lib (hid)
set_option maxRecDepth 100000
set_option maxHeartbeats 32000000
namespace Go.Proofs.YtiekbhlnnmnklaaGreat
open Go.RowKit Go.Shelf Go.Maps Lvl Trm Env
namespace Env
def entI (L : List Inf) : List Ent := L.map fun x => (0,x,zIHd)
theorem infs_entI (L : List Inf) : infs (entI L) = L := by
 unfold infs entI
 rw [List.map_map]
 exact List.map_id L
theorem entI_len (L : List Inf) : (entI L).length = L.length := by simp [entI]
noncomputable def addL (L l : List Inf) : List Inf := l.foldl (fun L x => L ++ [fixI (entI L) x]) L
theorem addL_snoc (L l : List Inf) (x : Inf) : addL L (l ++ [x]) = addL L l ++ [fixI (entI (addL L l)) x] := by
 unfold addL
 rw [List.foldl_append]
 rfl
theorem addL_len : ∀ (l L : List Inf),(addL L l).length = L.length + l.length
 | [],L => by simp [addL]
 | x :: r,L => by
   show (addL (L ++ [fixI (entI L) x]) r).length = _
   rw [addL_len r,List.length_append]
   simp
   omega
theorem Added.infs_is {A B : List Ent} {l : List Inf} (h : Added A l B) : infs B = addL (infs A) l := by
 induction h with
 | nil => rfl
 | snoc x b hd h2 ih =>
   rename_i l2 M
   rw [addL_snoc,← ih]
   unfold infs at ih ⊢
   rw [List.map_append]
   simp only [List.map_cons,List.map_nil]
   rw [fixI_alike (show infs M = infs (entI (List.map (·.2.1) M)) from (infs_entI _).symm) x]
theorem addL_take (L : List Inf) {l : List Inf} {k : Nat} (hk : k < l.length) : addL L (l.take (k + 1)) = addL L (l.take k) ++ [fixI (entI (addL L (l.take k))) l[k]] := by
 rw [List.take_succ_eq_append_getElem hk,addL_snoc]
theorem wrongLB_at {L : List Ent} {l : List Inf} {k : Nat} (hk : k < l.length) (h : ∀ j (hj : j < l.length),j < k → wrongIB L (names l) j l[j] = 0) (hne : wrongIB L (names l) k l[k] ≠ 0) : wrongLB L l = wrongIB L (names l) k l[k] := by
 unfold wrongLB
 have hk2 : k < l.zipIdx.length := by simpa using hk
 rw [firstE_at (l := l.zipIdx) (k := k) hk2 (fun j hj hjk => by
  have hj2 : j < l.length := by simpa using hj
  simp only [List.getElem_zipIdx,Nat.zero_add]
  exact h j hj2 hjk) (by simp only [List.getElem_zipIdx,Nat.zero_add]; exact hne)]
 simp only [List.getElem_zipIdx,Nat.zero_add]
theorem wrongLB_zero {L : List Ent} {l : List Inf} (h : ∀ j (hj : j < l.length),wrongIB L (names l) j l[j] = 0) : wrongLB L l = 0 := by
 unfold wrongLB
 refine firstE_zero fun j hj => ?_
 have hj2 : j < l.length := by simpa using hj
 simp only [List.getElem_zipIdx,Nat.zero_add]
 exact h j hj2
theorem wrongIB_may {L : List Ent} {ks : List (List UInt8)} {i : Nat} {x : Inf} (h : wrongIB L ks i x = 0) (hk : x.kind = 2) : x.va.may = true := by
 rw [← wrongI_is] at h
 exact (wrongI_zero h).2.2.2.2 _ (by simp [Inf.terms,Inf.hv,hk])
theorem fix_hgt2 {L : List Inf} (h : ∀ x ∈ L,0 ≤ x.height ∧ x.height ≤ (L.length : Int)) (x : Inf) : 0 ≤ (fixI (entI L) x).height ∧ (fixI (entI L) x).height ≤ (L.length : Int) + 1 := by
 have h1 := maxH_le (L := entI L) (l := x.va.nms) (M := (L.length : Int)) (by omega) (fun p hp => by
  obtain ⟨y,hy,rfl⟩ := List.mem_map.1 hp
  exact (h y hy).2)
 unfold fixI
 dsimp only
 split <;> omega
def ownR (r : Nat) (v : Value) (q : Nat) : Prop := q = r ∨ v.ownBlock = some q
structure REnv (P : Nat → Prop) (B : Nat) (w : World) (r : Nat) (v : Value) (ps : List (Inf × IHd)) : Prop where
 box : w.heap[r]? = some (.cells #[v] 35)
 inr : InRow P B w v ps
 own : P r
 lt : ∀ q,P q → q < w.heap.size
 base : ∀ q,P q → B ≤ q
 apart : v.ownBlock ≠ some r
 few : ps.length ≤ 4096
 hgt : ∀ p ∈ ps,0 ≤ p.1.height ∧ p.1.height ≤ (ps.length : Int)
def infR (ps : List (Inf × IHd)) : List Inf := ps.map (·.1)
theorem REnv.ownP {P : Nat → Prop} {B : Nat} {w : World} {r : Nat} {v : Value} {ps : List (Inf × IHd)} (h : REnv P B w r v ps) : ∀ q,ownR r v q → P q := by
 rintro q (rfl | hq)
 ·exact h.own
 ·exact h.inr.own q hq
theorem REnv.other {P R P' : Nat → Prop} {B : Nat} {w w' : World} {r : Nat} {v : Value} {ps : List (Inf × IHd)} (h : REnv P B w r v ps) (hr : RanS R w w') (hR : ∀ q,R q → P q) (hne : ∀ q,ownR r v q → ¬ R q) (hP : ∀ q,P' q → P q ∨ w.heap.size ≤ q) (hw : ∀ q,P q → P' q) (hl : ∀ q,P' q → q < w'.heap.size) (hB : B ≤ w.heap.size) : REnv P' B w' r v ps :=
 ⟨hr.keep h.box (hne r (Or.inl rfl)),⟨row_same h.inr.row (fun q hq => hr.block q (h.inr.row.lt q hq).2 (hne q (Or.inr hq))),fun q a => hw q (h.inr.own q a),fun p hp => (h.inr.firm p hp).turn (hr.wide hR) hP⟩,hw r h.own,hl,fun q hq => (hP q hq).elim (h.base q) (fun a => Nat.le_trans hB a),h.apart,h.few,h.hgt⟩
theorem REnv.below {P : Nat → Prop} {B : Nat} {w w' : World} {r : Nat} {v : Value} {ps : List (Inf × IHd)} (h : REnv P B w r v ps) (b : Below w.heap.size w w') : REnv P B w' r v ps :=
 h.other (R := fun _ => False) (RanS.of_below b) (fun _ a => a.elim) (fun _ _ a => a) (fun _ a => Or.inl a) (fun _ a => a) (fun q a => Nat.lt_of_lt_of_le (h.lt q a) b.size) (by have := h.base r h.own; have := h.lt r h.own; omega)
theorem InRow.infRow {P : Nat → Prop} {B : Nat} {w : World} {a : Option Addr} {n c : Nat} {ps : List (Inf × IHd)} (h : InRow P B w (.slice a n c) ps) : InfRow w.heap.size w a (infR ps) := ⟨fun k hk => by
 have hk2 : k < ps.length := by unfold infR at hk; simpa using hk
 obtain ⟨g,cap,hv,hrg,hg,_⟩ := h.at hk2
 injection hv with hv
 have e : (infR ps)[k] = ps[k].1 := List.getElem_map (fun p : Inf × IHd => p.1)
 refine ⟨g,0,ps[k].2,hv,hg,?_,?_⟩
 ·rw [e,Nat.zero_add]; exact hrg
 ·rw [e]; exact (h.firm _ (List.getElem_mem hk2)).here⟩
theorem REnv.ctx {P : Nat → Prop} {B : Nat} {w : World} {r : Nat} {v : Value} {ps : List (Inf × IHd)} (h : REnv P B w r v ps) : RCtx w r (infR ps) := by
 obtain ⟨a,c,hv⟩ := h.inr.form
 have hi := h.inr
 rw [hv] at hi
 have hb := h.box
 rw [hv] at hb
 exact ⟨⟨a,c,by unfold infR; rw [List.length_map]; simp [World.cell?,hb],hi.infRow⟩,by unfold infR; rw [List.length_map]; exact h.few⟩
theorem infR_snoc (ps : List (Inf × IHd)) (x : Inf) (h : IHd) : infR (ps ++ [(x,h)]) = infR ps ++ [x] := by simp [infR]
def RPush (P : Nat → Prop) (B : Nat) (w : World) (r : Nat) (v : Value) (ps : List (Inf × IHd)) (y : Inf) (h3 : IHd) (v' : Value) (w' : World) : Prop :=
 ∃ P',REnv P' B w' r v' (ps ++ [(y,h3)]) ∧ RanS (ownR r v) w w' ∧ (∀ q,ownR r v' q → ownR r v q ∨ w.heap.size ≤ q) ∧ (∀ q,P' q → P q ∨ w.heap.size ≤ q) ∧ (∀ q,P q → P' q)
theorem REnv.push {P : Nat → Prop} {B : Nat} {w W w10 : World} {r g cap : Nat} {v : Value} {ps : List (Inf × IHd)} {y : Inf} {h3 : IHd} {o : Obj} (h : REnv P B w r v ps) (hM : Mid (fun q => P q ∨ q = w.heap.size) w W y h3)
 (hown : w10.ownsRow B 46 25 (.slice (some ⟨g,0,none⟩) (ps.length + 1) cap) (ps.length + 1) (flatI ps ++ y.vals h3)) (hg : (W.drew.alloc o).grownBy w10 v.ownBlock) (hat : v.ownBlock = some g ∨ g = W.heap.size + 1) (hlt : g < w10.heap.size) (hfew : ps.length < 4096) (hhg : 0 ≤ y.height ∧ y.height ≤ (ps.length : Int) + 1) :
 RPush P B w r v ps y h3 (.slice (some ⟨g,0,none⟩) (ps.length + 1) cap) (w10.setCell ⟨r,0,none⟩ (.slice (some ⟨g,0,none⟩) (ps.length + 1) cap)) := by
 have hsW := hM.bel.size
 have hXW : w.heap.size < W.heap.size := hM.box.lt
 have hs10 := hg.size
 rw [World.size_alloc] at hs10
 have hs10' : W.heap.size + 1 ≤ w10.heap.size := hs10
 have hrw : r < w.heap.size := h.lt r h.own
 have r10 : RanS (fun q => v.ownBlock = some q) W w10 := ⟨hg.os,hg.tape,hg.output,by omega,fun k hk hn => by
  have h1 := hg.block k (by rw [World.size_alloc]; show k < W.heap.size + 1; omega) (fun a => hn a.symm)
  have h2 : (W.drew.alloc o).heap[k]? = W.drew.heap[k]? := (below_one W.drew o).block k hk
  exact h1.trans h2⟩
 have hge : g ≠ r := by
  rcases hat with a | a
  ·exact fun e => h.apart (e ▸ a)
  ·omega
 have r11 := set_ranE (P := fun q => q = r) w10 r 0 (.slice (some ⟨g,0,none⟩) (ps.length + 1) cap) rfl
 have rall : RanS (ownR r v) W (w10.setCell ⟨r,0,none⟩ (.slice (some ⟨g,0,none⟩) (ps.length + 1) cap)) := (r10.wide (fun q hq => Or.inr hq)).trans (r11.wide (fun q hq => Or.inl hq))
 have rw0 : RanS (ownR r v) w (w10.setCell ⟨r,0,none⟩ (.slice (some ⟨g,0,none⟩) (ps.length + 1) cap)) := (RanS.of_below hM.bel).trans rall
 have hgP : v.ownBlock = some g ∨ w.heap.size ≤ g := hat.imp id (fun a => by omega)
 have hP3 : ∀ q,(P q ∨ q = w.heap.size ∨ q = g) → P q ∨ w.heap.size ≤ q := fun q hq => by
  rcases hq with a | a | a
  ·exact Or.inl a
  ·exact Or.inr (by omega)
  ·subst a
   exact hgP.imp (h.inr.own _) id
 have hsz : (w10.setCell ⟨r,0,none⟩ (.slice (some ⟨g,0,none⟩) (ps.length + 1) cap)).heap.size = w10.heap.size := World.size_setCell _ _ _
 refine ⟨fun q => P q ∨ q = w.heap.size ∨ q = g,⟨?_,⟨?_,fun q hq => ?_,fun p hp => ?_⟩,Or.inl h.own,fun q hq => ?_,fun q hq => ?_,fun a => ?_,by simp; omega,fun p hp => ?_⟩,rw0,fun q hq => ?_,hP3,fun q hq => Or.inl hq⟩
 ·have hb10 : w10.heap[r]? = some (.cells #[v] 35) := r10.keep ((hM.bel.block r hrw).trans h.box) h.apart
  exact cells_setE (i := 0) hb10 (.slice (some ⟨g,0,none⟩) (ps.length + 1) cap)
 ·rw [List.length_append,List.length_singleton,flatI_snoc]
  refine row_same hown fun q hq => ?_
  injection hq with hq
  have hq2 : g = q := hq
  subst hq2
  exact RowKit.Below.heap_setCell _ ⟨r,0,none⟩ _ _ (show g ≠ (⟨r,0,none⟩ : Addr).block from hge)
 ·injection hq with hq
  exact Or.inr (Or.inr hq.symm)
 ·rcases List.mem_append.1 hp with hp | hp
  ·exact (h.inr.firm p hp).turn (rw0.wide h.ownP) hP3
  ·simp at hp
   subst hp
   refine hM.firm.turn (rall.wide (fun q hq => Or.inl (h.ownP q hq))) (fun q hq => ?_)
   rcases hq with a | a | a
   ·exact Or.inl (Or.inl a)
   ·exact Or.inl (Or.inr a)
   ·subst a
    rcases hat with b | b
    ·exact Or.inl (Or.inl (h.inr.own _ b))
    ·exact Or.inr (by omega)
 ·rw [hsz]
  rcases hq with a | a | a
  ·have := h.lt q a; omega
  ·omega
  ·omega
 ·rcases hP3 q hq with a | a
  ·exact h.base q a
  ·have := h.base r h.own; omega
 ·injection a with a
  exact hge a
 ·rw [List.length_append,List.length_singleton]
  rcases List.mem_append.1 hp with hp | hp
  ·have := h.hgt p hp; omega
  ·simp at hp
   subst hp
   have := hhg
   simp
   omega
 ·rcases hq with a | a
  ·exact Or.inl (Or.inl a)
  ·injection a with a
   have a2 : g = q := a
   subst a2
   exact hgP.imp Or.inr id
end Env
end Go.Proofs.YtiekbhlnnmnklaaGreat
