/-
 Some environments that the call has made,side by side.
-/
import Derived.Lib.Hide
import Derived.Test.YtiekbhlnnmnklaaGreatQB29
import Derived.Test.YtiekbhlnnmnklaaGreatQB18
import Derived.Test.YtiekbhlnnmnklaaGreatQB20
import Derived.Test.YtiekbhlnnmnklaaGreatQB25
import Derived.Test.YtiekbhlnnmnklaaGreatQB21
import Derived.Test.YtiekbhlnnmnklaaGreatQB23
import Derived.Test.YtiekbhlnnmnklaaGreatQB28
open Go.Lib (hid)
set_option maxRecDepth 100000
set_option maxHeartbeats 32000000
namespace Go.Proofs.YtiekbhlnnmnklaaGreat
open Go.RowKit Go.Shelf Go.Maps Lvl Trm Env
namespace Env
structure EnvR where
 e : Nat
 L : List Ent
 mo : Option Nat
 v : Value
def EnvR.own (x : EnvR) : Nat → Prop := ownE x.e x.v x.mo
structure Many (w0 W : World) (P : Nat → Prop) (X : List EnvR) : Prop where
 env : ∀ x ∈ X,EnvP P w0.heap.size W x.e x.L x.mo x.v
 sep : ∀ i j (hi : i < X.length) (hj : j < X.length),i ≠ j → ∀ q,X[i].own q → ¬ X[j].own q
 base : ∀ q,P q → w0.heap.size ≤ q
 lt : ∀ q,P q → q < W.heap.size
 bel : Below w0.heap.size w0 W
theorem Many.start (w : World) : Many w w (fun _ => False) [] := ⟨fun x hx => by simp at hx,fun i j hi => by simp at hi,fun _ a => a.elim,fun _ a => a.elim,Below.refl _ _⟩
theorem Many.below {w0 W W' : World} {P : Nat → Prop} {X : List EnvR} (h : Many w0 W P X) (b : Below W.heap.size W W') : Many w0 W' P X :=
 ⟨fun x hx => (h.env x hx).below b,h.sep,h.base,fun q a => Nat.lt_of_lt_of_le (h.lt q a) b.size,Trm.go h.bel b⟩
theorem Many.turn {w0 W W' : World} {P P' : Nat → Prop} {X : List EnvR} (h : Many w0 W P X) {i : Nat} (hi : i < X.length) {M : List Ent} {mo' : Option Nat} {v' : Value} (k : EnvP P' w0.heap.size W' X[i].e M mo' v') (s : Step P P' W W') (hran : RanS X[i].own W W') (hown : ∀ q,ownE X[i].e v' mo' q → X[i].own q ∨ W.heap.size ≤ q) : Many w0 W' P' (X.set i ⟨X[i].e,M,mo',v'⟩) := by
 have hltP : ∀ q,P' q → q < W'.heap.size := k.lt
 have hinv : ∀ j (hj : j < X.length),∀ q,X[j].own q → q < W.heap.size := fun j hj q a => (h.env _ (List.getElem_mem hj)).env.own_lt q a
 refine ⟨fun x hx => ?_,fun a b ha hb hab q h1 h2 => ?_,fun q hq => ?_,hltP,h.bel.trans (s.ran.below h.base h.bel.size)⟩
 ·obtain ⟨j,hj,rfl⟩ := List.mem_iff_getElem.1 hx
  have hj2 : j < X.length := by simpa using hj
  by_cases e : i = j
  ·subst e
   rw [List.getElem_set_self]
   exact k
  ·rw [List.getElem_set_ne e]
   exact (h.env _ (List.getElem_mem hj2)).other hran (fun q a => (h.env _ (List.getElem_mem hi)).own q a) (fun q a b => h.sep j i hj2 hi (Ne.symm e) q a b) s.own s.wide hltP
 ·have ha2 : a < X.length := by simpa using ha
  have hb2 : b < X.length := by simpa using hb
  by_cases ea : i = a
  ·subst ea
   rw [List.getElem_set_self] at h1
   rw [List.getElem_set_ne hab] at h2
   rcases hown q h1 with c | c
   ·exact h.sep i b ha2 hb2 hab q c h2
   ·have := hinv b hb2 q h2; omega
  ·rw [List.getElem_set_ne ea] at h1
   by_cases eb : i = b
   ·subst eb
    rw [List.getElem_set_self] at h2
    rcases hown q h2 with c | c
    ·exact h.sep a i ha2 hb2 hab q h1 c
    ·have := hinv a ha2 q h1; omega
   ·rw [List.getElem_set_ne eb] at h2
    exact h.sep a b ha2 hb2 hab q h1 h2
 ·rcases s.own q hq with c | c
  ·exact h.base q c
  ·exact Nat.le_trans h.bel.size c
def ManyAdd (w0 : World) (P : Nat → Prop) (X : List EnvR) (i : Nat) (x : EnvR) (l : List Inf) (W : World) (y : Ending) (W' : World) : Prop :=
 y = .returned (.int .i64 (addA x.L l)) ∧ ∃ M mo' v' P',AddTo x.L l M ∧ Many w0 W' P' (X.set i ⟨x.e,M,mo',v'⟩) ∧ Step P P' W W'
theorem Many.add {w0 W : World} {P : Nat → Prop} {X : List EnvR} (h : Many w0 W P X) {i : Nat} (hi : i < X.length) (l : List Inf) (lo : Option Addr) (lc : Nat) (hr : InfFirm P W lo l) (hl : l.length ≤ 1000000) (hrs : ∀ x ∈ l,x.rules.length ≤ 1000) :
 Calls Tryz.prog 20 #[.pointer (some ⟨X[i].e,0,none⟩),.slice lo l.length lc] W (ManyAdd w0 P X i X[i] l W) :=
 (addP_any (h.env _ (List.getElem_mem hi)) l lo lc hr hl hrs).mono fun _ _ ⟨hy,M,mo',v',P',h1,h2,h3,h4,h5,_⟩ => ⟨hy,M,mo',v',P',h1,h.turn hi h2 h3 h4 h5,h3⟩
theorem Many.addOne {w0 W : World} {P : Nat → Prop} {X : List EnvR} (h : Many w0 W P X) {i : Nat} (hi : i < X.length) {x : Inf} {hx : IHd} (f : FirmI P W x hx) (hr : x.rules.length ≤ 1000) :
 Calls Tryz.prog 20 #[.pointer (some ⟨X[i].e,0,none⟩),.slice (some ⟨W.heap.size,0,none⟩) 1 1] (W.alloc (.cells (x.vals hx).toArray 46)) (ManyAdd w0 P X i X[i] [x] W) := by
 have hb : Below W.heap.size W (W.alloc (.cells (x.vals hx).toArray 46)) := below_one _ _
 refine ((h.below hb).add hi [x] (some ⟨W.heap.size,0,none⟩) 1 (one_row f h.lt _) (by simp) (fun y hy => by simp at hy; subst hy; exact hr)).mono ?_
 rintro y W' ⟨hy,M,mo',v',P',h1,h2,h3⟩
 exact ⟨hy,M,mo',v',P',h1,h2,(Step.of_below hb).trans h3⟩
theorem EnvB.base {B B' : Nat} {w : World} {e : Nat} {L : List Ent} {mo : Option Nat} {v : Value} (h : EnvB B w e L mo v) (hB : B' ≤ B) : EnvB B' w e L mo v :=
 ⟨h.box,row_base h.row hB,h.map,h.info,h.firm,h.nodup,h.apart,Nat.le_trans hB h.eB,h.hgt,h.few⟩
theorem Many.push {w0 W W' : World} {P : Nat → Prop} {X : List EnvR} (h : Many w0 W P X) (b : Below W.heap.size W W') {e : Nat} {M : List Ent} {mo : Option Nat} {v : Value} (k : EnvB W.heap.size W' e M mo v) (hown : ∀ q,ownE e v mo q → W.heap.size ≤ q)
 (hent : ∀ p ∈ M,(∃ x ∈ X,p ∈ x.L) ∨ (W.heap.size ≤ p.1 ∧ FirmI (fun q => P q ∨ ownE e v mo q) W' p.2.1 p.2.2)) : Many w0 W' (fun q => P q ∨ ownE e v mo q) (X ++ [⟨e,M,mo,v⟩]) := by
 have hP : ∀ q,(P q ∨ ownE e v mo q) → P q ∨ W.heap.size ≤ q := fun q hq => hq.imp id (hown q)
 have hl : ∀ q,(P q ∨ ownE e v mo q) → q < W'.heap.size := fun q hq => by
  rcases hq with a | a
  ·exact Nat.lt_of_lt_of_le (h.lt q a) b.size
  ·exact k.own_lt q a
 have hold : ∀ j (hj : j < X.length),∀ q,X[j].own q → q < W.heap.size := fun j hj q a => (h.env _ (List.getElem_mem hj)).env.own_lt q a
 have hran : RanS (fun _ => False) W W' := RanS.of_below b
 refine ⟨fun x hx => ?_,fun i j hi hj hij q h1 h2 => ?_,fun q hq => ?_,hl,Trm.go h.bel b⟩
 ·rcases List.mem_append.1 hx with hx | hx
  ·exact (h.env x hx).other hran (fun _ a => a.elim) (fun _ _ a => a) hP (fun q a => Or.inl a) hl
  ·simp at hx
   subst hx
   refine ⟨k.base h.bel.size,fun q a => Or.inr a,hl,fun p hp => ?_⟩
   rcases hent p hp with ⟨x,hx,hpx⟩ | ⟨hp1,hp2⟩
   ·obtain ⟨h1,h2⟩ := (h.env x hx).ent p hpx
    have hlt := ((h.env x hx).env.info p hpx).1.lt
    refine ⟨fun a => ?_,h2.turn (RanS.of_below b) hP⟩
    rcases a with a | a
    ·exact h1 a
    ·have := hown _ a; omega
   ·refine ⟨fun a => ?_,hp2⟩
    rcases a with a | a
    ·have := h.lt _ a; omega
    ·exact (k.info p hp).2 a
 ·rw [List.length_append,List.length_singleton] at hi hj
  by_cases e1 : i < X.length
  ·rw [List.getElem_append_left e1] at h1
   by_cases e2 : j < X.length
   ·rw [List.getElem_append_left e2] at h2
    exact h.sep i j e1 e2 hij q h1 h2
   ·rw [List.getElem_append_right (by omega)] at h2
    simp at h2
    have := hold i e1 q h1
    have := hown q h2
    omega
  ·rw [List.getElem_append_right (by omega)] at h1
   simp at h1
   by_cases e2 : j < X.length
   ·rw [List.getElem_append_left e2] at h2
    have := hold j e2 q h2
    have := hown q h1
    omega
   ·omega
 ·rcases hP q hq with a | a
  ·exact h.base q a
  ·exact Nat.le_trans h.bel.size a
theorem Many.new {w0 W : World} {P : Nat → Prop} {X : List EnvR} (h : Many w0 W P X) : Many w0 (W.alloc (.cells #[.map none,.slice none 0 0] 99)) (fun q => P q ∨ ownE W.heap.size (.slice none 0 0) none q) (X ++ [⟨W.heap.size,[],none,.slice none 0 0⟩]) :=
 h.push (below_one _ _) (EnvB.start (Nat.le_refl _)) (fun q hq => by
  rcases hq with a | a | a
  ·omega
  ·simp [Value.ownBlock] at a
  ·cases a) (fun p hp => by simp at hp)
def ManyWith (w0 : World) (P : Nat → Prop) (X : List EnvR) (x : EnvR) (l : List Inf) (W : World) (y : Ending) (W' : World) : Prop :=
 (addA x.L l ≠ 0 ∧ y = .returned (.tuple #[.pointer none,.int .i64 (addA x.L l)]) ∧ Many w0 W' P X ∧ Below W.heap.size W W') ∨
 (addA x.L l = 0 ∧ ∃ e' M mo' v' P',y = .returned (.tuple #[.pointer (some ⟨e',0,none⟩),.int .i64 0]) ∧ Added x.L l M ∧ Many w0 W' P' (X ++ [⟨e',M,mo',v'⟩]) ∧ Below W.heap.size W W' ∧ (∀ q,P q → P' q) ∧ (∀ q,P' q → P q ∨ W.heap.size ≤ q))
theorem Many.with_ {w0 W : World} {P : Nat → Prop} {X : List EnvR} (h : Many w0 W P X) {i : Nat} (hi : i < X.length) (l : List Inf) (lo : Option Addr) (lc : Nat) (hr : InfFirm P W lo l) (hl : l.length ≤ 1000000) (hrs : ∀ x ∈ l,x.rules.length ≤ 1000) :
 Calls Tryz.prog 19 #[.pointer (some ⟨X[i].e,0,none⟩),.slice lo l.length lc] W (ManyWith w0 P X X[i] l W) := by
 refine (withE_any (h.env _ (List.getElem_mem hi)).env l lo lc h.lt hr hl hrs).mono ?_
 rintro y W' ⟨b,⟨f,rfl,hf⟩ | ⟨h1,h2,e',M,mo',v',rfl,h3,h4,h5,h6⟩⟩
 ·have hA : addA X[i].L l = f ∧ f ≠ 0 := by
   unfold addA
   rcases hf with ⟨a,rfl⟩ | ⟨a,c,rfl⟩
   ·exact ⟨if_pos a,by decide⟩
   ·exact ⟨if_neg (by omega),c⟩
  exact Or.inl ⟨by rw [hA.1]; exact hA.2,by rw [hA.1],h.below b,b⟩
 ·have hA : addA X[i].L l = 0 := by unfold addA; rw [if_neg (by omega),h2]
  refine Or.inr ⟨hA,e',M,mo',v',_,rfl,h3,h.push b h4 h5 (fun p hp => (h6 p hp).imp (fun a => ⟨_,List.getElem_mem hi,a⟩) id),b,fun q a => Or.inl a,fun q a => a.imp id (h5 q)⟩
end Env
end Go.Proofs.YtiekbhlnnmnklaaGreat
namespace Go.Proofs.YtiekbhlnnmnklaaGreat
open Go.RowKit Go.Shelf Go.Maps Lvl Trm Env
def Env.MadeX (w : World) (e : Ending) (w' : World) : Prop := ∃ g,e = .returned (tS.val ⟨some ⟨g,0,none⟩,1,none,0⟩) ∧ w'.heap[g]? = some (.cells #[.int .i64 0,.int .i64 (-1),.int .i64 (-1),.int .i64 (-1),.int .i64 (-1)] 61) ∧ w.heap.size ≤ g ∧ Below w.heap.size w w'
theorem SX_any (w : World) : Calls Tryz.prog 22 #[] w (MadeX w) := by
 go_enter Tryz.func22,Tryz.ntmps22
 go_wp2_with fail
 refine (RefZero_any _).mono ?_
 rintro e w1 ⟨rfl,b1⟩
 have hk := Lvl.keep b1 (World.alloc_heap_new w _)
 have hz := b1.size
 simp only [World.size_alloc] at hz
 have HB := hid ((below_one w _).trans (b1.mono (B' := w.heap.size) (by simp)))
 clear b1
 have hlt : w.heap.size < w1.heap.size := by omega
 obtain ⟨c0,c1,c2,c3,c4⟩ := five_cells hk
 obtain ⟨f0,f1,f2,f3,f4⟩ := five_free hk
 have HK := hid hk
 clear hk
 dsimp only [Lv.val,number]
 go_wp2_with fail
 have h5 := putT_self HK.out (.int .u8 1) (.int .i64 0) (.string no) (.slice (some ⟨w1.heap.size,0,none⟩) 1 1) (.slice none 0 0)
 have b5 := putT_below HB.out (B := w.heap.size) (Nat.le_refl _) (.int .u8 1) (.int .i64 0) (.string no) (.slice (some ⟨w1.heap.size,0,none⟩) 1 1) (.slice none 0 0)
 have z5 := putT_size w1 w.heap.size (.int .u8 1) (.int .i64 0) (.string no) (.slice (some ⟨w1.heap.size,0,none⟩) 1 1) (.slice none 0 0)
 unfold putT no at h5 b5 z5
 generalize hW : ((((w1.setCell ⟨w.heap.size,0,none⟩ (.int .u8 1)).setCell ⟨w.heap.size,1,none⟩ (.int .i64 0)).setCell ⟨w.heap.size,2,none⟩ (.string ⟨#[]⟩)).setCell ⟨w.heap.size,3,none⟩ (.slice (some ⟨w1.heap.size,0,none⟩) 1 1)).setCell ⟨w.heap.size,4,none⟩ (.slice none 0 0) = W4 at h5 b5 z5 ⊢
 have l5 := World.alloc_heap_new W4 (.cells #[.int .i64 0,.int .i64 (-1),.int .i64 (-1),.int .i64 (-1),.int .i64 (-1)] 61)
 rw [z5] at l5
 obtain ⟨e0,e1,e2,e3,e4⟩ := five_cells (keepA h5 (.cells #[.int .i64 0,.int .i64 (-1),.int .i64 (-1),.int .i64 (-1),.int .i64 (-1)] 61))
 clear hW
 exact bodyPost_ret (v := tS.val ⟨some ⟨w1.heap.size,0,none⟩,1,none,0⟩) (by simp [results,Tryz.results22,go_sem,e0,e1,e2,e3,e4,tS,Tm.val,Tm.vals,Tm.k,Tm.n,Tm.s,Tm.ls,Tm.ts,no]) rfl ⟨w1.heap.size,rfl,l5,by omega,b5.alloc b5.size _⟩
namespace Env
theorem two_row {P : Nat → Prop} {W : World} {x y : Inf} {h g : IHd} (f : FirmI P W x h) (k : FirmI P W y g) (hP : ∀ q,P q → q < W.heap.size) (ty : TypeId) : InfFirm P (W.alloc (.cells ((x.vals h) ++ (y.vals g)).toArray ty)) (some ⟨W.heap.size,0,none⟩) [x,y] := ⟨fun i hi => by
 have hn := World.alloc_heap_new W (.cells ((x.vals h) ++ (y.vals g)).toArray ty)
 have hcell : ∀ j,(W.alloc (.cells ((x.vals h) ++ (y.vals g)).toArray ty)).cell? ⟨W.heap.size,j,none⟩ = ((x.vals h) ++ (y.vals g))[j]? := fun j => by
  unfold World.cell?
  show (match (W.alloc (.cells ((x.vals h) ++ (y.vals g)).toArray ty)).heap[W.heap.size]? with | some (.cells c _ _) => c[j]? | _ => none) = _
  rw [hn]
  simp
 have hlt : W.heap.size < (W.alloc (.cells ((x.vals h) ++ (y.vals g)).toArray ty)).heap.size := by rw [World.size_alloc]; omega
 have hi2 : i = 0 ∨ i = 1 := by simp at hi; omega
 rcases hi2 with rfl | rfl
 ·refine ⟨W.heap.size,0,h,rfl,hlt,fun a => by have := hP _ a; omega,fun j v hv => ?_,f.step (RanS.of_below (below_one _ _))⟩
  have hv2 : (x.vals h)[j]? = some v := hv
  rw [show 0 + 0 * 25 + j = j by omega,hcell,List.getElem?_append_left (List.getElem?_eq_some_iff.1 hv2).1]
  exact hv2
 ·refine ⟨W.heap.size,0,g,rfl,hlt,fun a => by have := hP _ a; omega,fun j v hv => ?_,k.step (RanS.of_below (below_one _ _))⟩
  have hv2 : (y.vals g)[j]? = some v := hv
  rw [hcell,List.getElem?_append_right (by rw [Inf.len]; omega),Inf.len,show 0 + 1 * 25 + j - 25 = j by omega]
  exact hv2⟩
theorem WS.addTwo {w W : World} {P : Nat → Prop} {e : Nat} {L : List Ent} {mo : Option Nat} {v : Value} {x z : Inf} {hx hz : IHd} (h : WS w W P e L mo v) (f : FirmI P W x hx) (k : FirmI P W z hz) (hr : x.rules.length ≤ 1000) (hr2 : z.rules.length ≤ 1000) :
 Calls Tryz.prog 20 #[.pointer (some ⟨e,0,none⟩),.slice (some ⟨W.heap.size,0,none⟩) 2 2] (W.alloc (.cells ((x.vals hx) ++ (z.vals hz)).toArray 46)) fun y W' =>
  y = .returned (.int .i64 (addA L [x,z])) ∧ ∃ M mo' v' P',AddTo L [x,z] M ∧ WS w W' P' e M mo' v' ∧ Step P P' W W' := by
 have hb : Below W.heap.size W (W.alloc (.cells ((x.vals hx) ++ (z.vals hz)).toArray 46)) := below_one _ _
 have h2 := h.below hb
 refine (addP_any h2.env [x,z] (some ⟨W.heap.size,0,none⟩) 2 (two_row f k h.env.lt _) (by simp) (fun y hy => by simp at hy; rcases hy with rfl | rfl; exact hr; exact hr2)).mono ?_
 intro y W' a
 obtain ⟨hy,M,mo',v',P',h3,h4,h5⟩ := h2.add a
 exact ⟨hy,M,mo',v',P',h3,h4,(Step.of_below hb).trans h5⟩
theorem FdPost.two {P : Nat → Prop} {L : List Ent} {k : List UInt8} {w w' : World} {y : Ending} (a : FdPost P L k w y w') : ∃ (z : Inf) (hz : IHd) (b : Bool),y = .returned (.tuple #[.agg (z.vals hz).toArray,.bool b]) ∧ Below w.heap.size w w' ∧ (b = true ↔ (lookE L k).isSome = true) ∧ FirmI P w' z hz := by
 obtain ⟨b,⟨h0,h1⟩ | ⟨q,hd,h0,h2,h3⟩⟩ := a
 ·exact ⟨zI,zIHd,false,h1,b,by rw [h0]; simp,zI_firm⟩
 ·exact ⟨_,hd,true,h2,b,by rw [h0]; simp,h3⟩
end Env
end Go.Proofs.YtiekbhlnnmnklaaGreat
namespace Go.Proofs.YtiekbhlnnmnklaaGreat
open Go.RowKit Go.Shelf Go.Maps Lvl Trm Env
theorem step_bslice {P : Program} {ops : Array Oper} {o : Oper} {a : Act} {w : World} {K : Act → World → Prop} {Q : Exit → Act → World → Prop} {E : Prop} (hw : Region.wanted o (yielded ops a.tmps) = true) (t e : TypeId) (len : Nat) (parts : Array (Nat × Operand)) (ho : o.op = .buildSlice t len parts) (dst : Option Tmp) (hdst : o.dst = dst)
 (cells : Array Value) (hu : P.underlying t = some (.slice e)) (hf : P.builtSlice e len (parts.map fun (i,x) => (i,a.eval x)).toList = some cells)
 (h : K (a.put dst (.slice (some ⟨w.heap.size,0,none⟩) len len)) (w.alloc (.cells cells e))) : if Region.wanted o (yielded ops a.tmps) = true then Oper.wp P o a w K Q else E := by
 rw [if_pos hw]
 exact wp_bslice t e len parts ho dst hdst cells hu hf h
namespace Env
theorem rem_nat {z : Int} {n : Nat} (h : 0 ≤ z) : ∃ r : Nat,z.tmod ((n : Int) + 1) = (r : Int) ∧ r ≤ n := by
 have h1 := Int.tmod_lt_of_pos z (show (0 : Int) < (n : Int) + 1 by omega)
 have h2 := Int.tmod_nonneg ((n : Int) + 1) h
 exact ⟨(z.tmod ((n : Int) + 1)).toNat,by omega,by omega⟩
theorem Added.facts2 {L M : List Ent} {l : List Inf} (a : Added L l M) (h : ∀ p ∈ L,p.2.1.rules.length ≤ 1000) : (∀ x ∈ l,x.rules.length ≤ 1000) → ∀ p ∈ M,p.2.1.rules.length ≤ 1000 := by
 induction a with
 | nil => exact fun _ => h
 | snoc x b hd h2 ih =>
   intro hr p hp
   rcases List.mem_append.1 hp with hp | hp
   ·exact ih (fun y hy => hr y (by simp [hy])) p hp
   ·simp at hp; subst hp; exact hr x (by simp)
theorem AddTo.facts2 {L M : List Ent} {l : List Inf} (a : AddTo L l M) (hr : ∀ x ∈ l,x.rules.length ≤ 1000) (h : ∀ p ∈ L,p.2.1.rules.length ≤ 1000) : ∀ p ∈ M,p.2.1.rules.length ≤ 1000 := by
 rcases a with ⟨_,a⟩ | ⟨_,rfl⟩
 ·exact a.facts2 h hr
 ·exact h
theorem InfRow.sub {B : Nat} {w : World} {b off : Nat} {l : List Inf} {k m : Nat} (h : InfRow B w (some ⟨b,off,none⟩) l) : InfRow B w (some ⟨b,off + k * 25,none⟩) ((l.drop k).take m) := ⟨fun j hj => by
 have hj2 : k + j < l.length := by rw [List.length_take,List.length_drop] at hj; omega
 obtain ⟨b',off',hd,h1,h2,h3,h4⟩ := h.place (k + j) hj2
 injection h1 with h1
 injection h1 with hb ho
 subst hb ho
 have e : ((l.drop k).take m)[j] = l[k + j] := by rw [List.getElem_take,List.getElem_drop]
 refine ⟨b,off + k * 25,hd,rfl,h2,?_,?_⟩
 ·rw [e,show off + k * 25 + j * 25 = off + (k + j) * 25 by omega]; exact h3
 ·rw [e]; exact h4⟩
theorem slice_infos {l : List Inf} {lo : Option Addr} {lc k m : Nat} {w : World} (h1 : (0 : Int) ≤ (k : Int)) (h2 : (k : Int) ≤ (k : Int) + (m : Int)) (h3 : (k : Int) + (m : Int) ≤ (lc : Int)) (h : InfRow w.heap.size w lo l) (hl : k + m ≤ l.length) :
 ∃ (so : Option Addr) (sc : Nat),(∀ W : World,(Instr.slice 22 (.slice lo l.length lc) (some (.int .i64 (k : Int))) (some (.int .i64 ((k : Int) + (m : Int)))) none).run Tryz.prog W = .ok (.slice so m sc) W) ∧ InfRow w.heap.size w so ((l.drop k).take m) := by
 have h4 : (0 : Int) ≤ (k : Int) + (m : Int) := by omega
 have h5 : k ≤ lc := by omega
 have h7 : ((k : Int) + (m : Int)).toNat = k + m := by omega
 by_cases hk : k < lc
 ·have h6 : ¬ lc = k := by omega
  cases lo with
  | none =>
    have h0 : l.length = 0 := by
     rcases Nat.eq_zero_or_pos l.length with a | a
     ·exact a
     ·obtain ⟨_,_,_,q,_⟩ := h.place 0 a
      cases q
    refine ⟨none,lc - k,fun W => ?_,⟨fun j hj => by rw [List.length_take,List.length_drop] at hj; omega⟩⟩
    have hk0 : k = 0 := by omega
    have hm0 : m = 0 := by omega
    subst hk0 hm0
    simp [go_sem,sliced]
  | some ad =>
    by_cases hm : m = 0
    ·subst hm
     refine ⟨some (ad.add (k * 25)),lc - k,fun W => ?_,⟨fun j hj => by simp at hj⟩⟩
     simp [go_sem,sliced,h5,h6]
    ·obtain ⟨b,off,_,q,_⟩ := h.place 0 (by omega)
     injection q with q
     subst q
     refine ⟨some ⟨b,off + k * 25,none⟩,lc - k,fun W => ?_,h.sub⟩
     have h8 : ((k : Int) + (m : Int) ≤ (lc : Int)) = True := eq_true h3
     have h10 : ((k : Int) ≤ (k : Int) + (m : Int)) = True := eq_true h2
     simp [go_sem,sliced,h6,h7,h8,h10,Trm.add_none]
 ·have hm0 : m = 0 := by omega
  subst hm0
  have h6 : lc = k := by omega
  refine ⟨lo,lc - k,fun W => ?_,⟨fun j hj => by simp at hj⟩⟩
  simp [go_sem,sliced,h6]
theorem AddTo.none_of {L M : List Ent} {s : ByteArray} {t : Tm} (a : AddTo L [ax s t] M) {k : List UInt8} (h : (lookE L k).isSome = false) (hk : (key s == k) = false) : (lookE M k).isSome = false := by
 rcases a with ⟨_,a⟩ | ⟨_,rfl⟩
 ·obtain ⟨b,hd,rfl⟩ := a.one
  have hL : L.find? (fun p => ekey p == k) = none := by unfold lookE at h; simpa using h
  unfold lookE
  rw [List.find?_append,hL]
  have h2 : (ekey (b,fixI L (ax s t),hd) == k) = false := hk
  simp [h2]
 ·exact h
theorem cell_stay {W W' : World} {g j : Nat} {u : Value} (h : g < W.heap.size ∧ W.cell? ⟨g,j,none⟩ = some u) (b : Below W.heap.size W W') : g < W'.heap.size ∧ W'.cell? ⟨g,j,none⟩ = some u := by
 refine ⟨Nat.lt_of_lt_of_le h.1 b.size,?_⟩
 rw [← h.2]
 unfold World.cell?
 rw [b.block g h.1]
def nms (L : List Ent) : List ByteArray := (infs L).map (·.name)
theorem nms_len (L : List Ent) : (nms L).length = L.length := by simp [nms,infs]
def StrRow (W : World) (a : Option Addr) (l : List ByteArray) : Prop := ∀ j (hj : j < l.length),∃ g,a = some ⟨g,0,none⟩ ∧ g < W.heap.size ∧ W.cell? ⟨g,j,none⟩ = some (.string l[j])
theorem StrRow.below {W W' : World} {a : Option Addr} {l : List ByteArray} (h : StrRow W a l) (b : Below W.heap.size W W') : StrRow W' a l := fun j hj => by
 obtain ⟨g,h1,h2,h3⟩ := h j hj
 refine ⟨g,h1,Nat.lt_of_lt_of_le h2 b.size,?_⟩
 rw [← h3]
 unfold World.cell?
 rw [b.block g h2]
theorem list_str {B : Nat} {w : World} {e : Nat} {L : List Ent} {mo : Option Nat} {v : Value} (h : EnvB B w e L mo v) {N : List ByteArray} (hN : N = nms L) :
 Calls Tryz.prog 18 #[.pointer (some ⟨e,0,none⟩)] w (fun y w' => ∃ a c,y = .returned (.slice a N.length c) ∧ StrRow w' a N ∧ Below w.heap.size w w') := by
 subst hN
 refine (list_any h).mono ?_
 rintro y w' ⟨v',rfl,hr,hb⟩
 obtain ⟨a,c,hv⟩ := row_slice hr
 refine ⟨a,c,by rw [hv,nms_len],fun j hj => ?_,hb⟩
 have hj2 : j < L.length := by rw [nms_len] at hj; exact hj
 obtain ⟨g,cap,hv2,_,hg⟩ := hr.form (by omega)
 refine ⟨g,by rw [hv] at hv2; injection hv2,hg,?_⟩
 subst hv2
 have h1 := hr.cells (g := g) rfl j (.string (nms L)[j]) (by simp [nms,infs,hj2])
 have e1 : ((⟨g,0,none⟩ : Addr).add j) = ⟨g,j,none⟩ := by rw [Trm.add_none,Nat.zero_add]
 rw [e1] at h1
 exact h1
theorem two_look {A B : List Ent} {N : List ByteArray} (hN : N = nms A) (h : infs A = infs B) (ha : (A.map ekey).Nodup) (hb : (B.map ekey).Nodup) {j : Nat} (hj : j < N.length) : ∃ x p q,N[j] = x.name ∧ lookE A (key x.name) = some p ∧ lookE B (key x.name) = some q ∧ p.2.1 = x ∧ q.2.1 = x ∧ p ∈ A := by
 subst hN
 have hj2 : j < A.length := by rw [nms_len] at hj; exact hj
 obtain ⟨hj3,e⟩ := infs_get h hj2
 refine ⟨A[j].2.1,A[j],B[j],by simp [nms,infs],lookE_nodup ha j hj2,?_,rfl,e.symm,List.getElem_mem hj2⟩
 rw [e]
 exact lookE_nodup hb j hj3
end Env
end Go.Proofs.YtiekbhlnnmnklaaGreat
namespace Go.Proofs.YtiekbhlnnmnklaaGreat
open Go.RowKit Go.Shelf Go.Maps Lvl Trm Env
theorem Names_no (t : Tm) (h : Hd) (w : World) (hin : t.In w.heap.size w h) (hm : t.may = false) :
 Calls Tryz.prog 68 #[t.val h] w fun e w' => e = .returned (.slice none 0 0) ∧ Below w.heap.size w w' := by
 have HM := hid (fun (W : World) (hW : Below w.heap.size w W) => (show Calls Tryz.prog 82 #[t.val h] W fun e w' => e = .returned (.bool false) ∧ Below W.heap.size W w' from hm ▸ PMay_any t h W (Tm.In.mono hW.size _ _ (Tm.In.below hW _ _ hin))))
 unfold Tm.val at HM ⊢
 dsimp only [Tm.vals] at HM ⊢
 clear hin hm
 go_enter Tryz.func68,Tryz.ntmps68
 go_wp2_with fail
 refine (HM.out _ (below_one w _)).mono ?_
 rintro e w1 ⟨rfl,b1⟩
 have HB1 := hid (Trm.go (below_one w _) b1)
 clear b1
 go_wp2_with fail
 go_ret
 exact ⟨rfl,HB1.out⟩
theorem height_no (e : Nat) (w : World) (t : Tm) (ht : Hd) (hin : t.In w.heap.size w ht) (hm : t.may = false) :
 Calls Tryz.prog 31 #[.pointer (some ⟨e,0,none⟩),t.val ht] w fun y w' => y = .returned (.int .i64 0) ∧ Below w.heap.size w w' := by
 obtain ⟨WA,hWA⟩ : ∃ WA,WA = w.alloc (t.box ht) := ⟨_,rfl⟩
 have HBA := hid (show Below w.heap.size w WA from hWA ▸ below_one _ _)
 have HBX := hid (show WA.heap[w.heap.size]? = some (t.box ht) from hWA ▸ World.alloc_heap_new w _)
 have HN := hid (Names_no t ht WA (carry hin HBA.out) hm)
 clear hin hm
 unfold Tm.val Tm.vals at *
 go_enter Tryz.func31,Tryz.ntmps31
 unfold Tm.box Tm.vals at hWA
 go_upto_region 1 with fail
 rw [← hWA]
 clear hWA
 obtain ⟨x0,x1,x2,x3,x4⟩ := Tm.cells HBX.out
 go_wp2_with fail
 refine HN.out.mono ?_
 rintro y w1 ⟨rfl,b1⟩
 have HB1 := hid (Trm.go HBA.out b1)
 clear b1 x0 x1 x2 x3 x4
 go_upto_region 3 with fail
 go_loopw [5,12] (fun v i wr => v = .int .i64 0 ∧ i = .int .i64 0 ∧ w1 = wr) (fun _ _ _ => 0)
 case atStart => exact ⟨rfl,rfl,rfl⟩
 case round =>
  obtain ⟨rfl,rfl,rfl⟩ := hrel
  go_wp2_with fail
  go_ret
  exact ⟨rfl,HB1.out⟩
end Go.Proofs.YtiekbhlnnmnklaaGreat
namespace Go.Proofs.YtiekbhlnnmnklaaGreat
open Go.RowKit Go.Shelf Lvl Trm Env
namespace Env
def addB (L : List Ent) (l : List Inf) : Int := if 4096 < L.length + l.length then 4 else wrongLB L l
theorem addA_is (L : List Ent) (l : List Inf) : addA L l = addB L l := by unfold addA addB; rw [wrongL_is]
theorem tyAns_zero {L : List Ent} {t : Tm} {p : Ent} (h : ofO L t = some p) (hl : t.ls = []) (hm : p.2.1.ty.may = true) (hb : p.2.1.ty.bel 0 = true) : tyAns L t = (p.2.1.ty,0) := by
 unfold tyAns
 rw [h,hl]
 have e := levels_par hm (n := 0) (by omega)
 rw [if_pos hb] at e
 exact e
end Env
end Go.Proofs.YtiekbhlnnmnklaaGreat
