/-
 EnvPlays: environments of the program side by side with the document's one.
-/
import Derived.Lib.Hide
import Derived.Test.YtiekbhlnnmnklaaGreatQB30
import Derived.Test.YtiekbhlnnmnklaaGreatQEnvRAdd
import Derived.Test.YtiekbhlnnmnklaaGreatQEnvRTy
open Go.Lib (hid)
set_option maxRecDepth 100000
set_option maxHeartbeats 32000000
namespace Go.Proofs.YtiekbhlnnmnklaaGreat
open Go.RowKit Go.Shelf Go.Maps Lvl Trm Env
namespace Env
theorem Many.side {w0 W W' : World} {P P' R : Nat → Prop} {X : List EnvR} (h : Many w0 W P X) (hr : RanS R W W') (hR : ∀ q,R q → P q) (hne : ∀ i (hi : i < X.length) q,X[i].own q → ¬ R q) (hP : ∀ q,P' q → P q ∨ W.heap.size ≤ q) (hw : ∀ q,P q → P' q) (hl : ∀ q,P' q → q < W'.heap.size) : Many w0 W' P' X :=
 ⟨fun x hx => by
  obtain ⟨i,hi,rfl⟩ := List.mem_iff_getElem.1 hx
  exact (h.env _ hx).other hr hR (hne i hi) hP hw hl,h.sep,fun q hq => (hP q hq).elim (h.base q) (fun a => Nat.le_trans h.bel.size a),hl,h.bel.trans ((hr.wide hR).below h.base h.bel.size)⟩
theorem Many.drop {w0 W : World} {P : Nat → Prop} {X : List EnvR} {y : EnvR} (h : Many w0 W P (X ++ [y])) : Many w0 W P X :=
 ⟨fun x hx => h.env x (List.mem_append_left _ hx),fun i j hi hj hij q h1 h2 => by
  have h3 := h.sep i j (by rw [List.length_append]; omega) (by rw [List.length_append]; omega) hij q
  rw [List.getElem_append_left hi,List.getElem_append_left hj] at h3
  exact h3 h1 h2,h.base,h.lt,h.bel⟩
structure Ply (w0 W : World) (P : Nat → Prop) (X : List EnvR) (r : Nat) (v : Value) (ps : List (Inf × IHd)) : Prop where
 many : Many w0 W P X
 ref : REnv P w0.heap.size W r v ps
 sep : ∀ i (hi : i < X.length) q,X[i].own q → ¬ ownR r v q
theorem Ply.below {w0 W W' : World} {P : Nat → Prop} {X : List EnvR} {r : Nat} {v : Value} {ps : List (Inf × IHd)} (h : Ply w0 W P X r v ps) (b : Below W.heap.size W W') : Ply w0 W' P X r v ps := ⟨h.many.below b,h.ref.below b,h.sep⟩
theorem Ply.drop {w0 W : World} {P : Nat → Prop} {X : List EnvR} {y : EnvR} {r : Nat} {v : Value} {ps : List (Inf × IHd)} (h : Ply w0 W P (X ++ [y]) r v ps) : Ply w0 W P X r v ps :=
 ⟨h.many.drop,h.ref,fun i hi q a => by
  have h3 := h.sep i (by rw [List.length_append]; omega) q
  rw [List.getElem_append_left hi] at h3
  exact h3 a⟩
theorem Ply.start {w0 W : World} {P : Nat → Prop} {X : List EnvR} (h : Many w0 W P X) : Ply w0 (W.alloc (.cells #[.slice none 0 0] 35)) (fun q => P q ∨ q = W.heap.size) X W.heap.size (.slice none 0 0) [] := by
 have hb := below_one W (.cells #[.slice none 0 0] 35)
 have hl : ∀ q,(P q ∨ q = W.heap.size) → q < (W.alloc (.cells #[.slice none 0 0] 35)).heap.size := fun q hq => by
  rw [World.size_alloc]
  rcases hq with a | a
  ·have := h.lt q a; omega
  ·omega
 refine ⟨h.side (R := fun _ => False) (RanS.of_below hb) (fun _ a => a.elim) (fun _ _ _ _ a => a) (fun q hq => hq.imp id (fun a => by omega)) (fun q a => Or.inl a) hl,⟨World.alloc_heap_new _ _,InRow.nil,Or.inr rfl,hl,fun q hq => ?_,?_,by simp,by simp⟩,fun i hi q a b => ?_⟩
 ·rcases hq with a | a
  ·exact h.base q a
  ·rw [a]; exact h.bel.size
 ·simp [Value.ownBlock]
 ·have h1 := h.lt q ((h.env _ (List.getElem_mem hi)).own q a)
  rcases b with b | b
  ·omega
  ·simp [Value.ownBlock] at b
theorem Ply.turn {w0 W W' : World} {P P' : Nat → Prop} {X : List EnvR} {r : Nat} {v : Value} {ps : List (Inf × IHd)} (h : Ply w0 W P X r v ps) {i : Nat} (hi : i < X.length) {M : List Ent} {mo' : Option Nat} {v' : Value} (k : EnvP P' w0.heap.size W' X[i].e M mo' v') (s : Step P P' W W') (hran : RanS X[i].own W W') (hown : ∀ q,ownE X[i].e v' mo' q → X[i].own q ∨ W.heap.size ≤ q) : Ply w0 W' P' (X.set i ⟨X[i].e,M,mo',v'⟩) r v ps := by
 have hm := h.many.turn hi k s hran hown
 have hoP : ∀ q,X[i].own q → P q := fun q a => (h.many.env _ (List.getElem_mem hi)).own q a
 refine ⟨hm,h.ref.other hran hoP (fun q a b => h.sep i hi q b a) s.own s.wide hm.lt h.many.bel.size,fun j hj q a => ?_⟩
 have hj2 : j < X.length := by simpa using hj
 by_cases e : i = j
 ·subst e
  rw [List.getElem_set_self] at a
  rcases hown q a with b | b
  ·exact h.sep i hi q b
  ·intro c
   have := h.ref.lt q (h.ref.ownP q c)
   omega
 ·rw [List.getElem_set_ne e] at a
  exact h.sep j hj2 q a
def PlyAdd (w0 : World) (P : Nat → Prop) (X : List EnvR) (r : Nat) (v : Value) (ps : List (Inf × IHd)) (i : Nat) (x : EnvR) (l : List Inf) (W : World) (y : Ending) (W' : World) : Prop :=
 y = .returned (.int .i64 (addA x.L l)) ∧ ∃ M mo' v' P',AddTo x.L l M ∧ Ply w0 W' P' (X.set i ⟨x.e,M,mo',v'⟩) r v ps ∧ Step P P' W W'
theorem Ply.add {w0 W : World} {P : Nat → Prop} {X : List EnvR} {r : Nat} {v : Value} {ps : List (Inf × IHd)} (h : Ply w0 W P X r v ps) {i : Nat} (hi : i < X.length) (l : List Inf) (lo : Option Addr) (lc : Nat) (hr : InfFirm P W lo l) (hl : l.length ≤ 1000000) (hrs : ∀ x ∈ l,x.rules.length ≤ 1000) :
 Calls Tryz.prog 20 #[.pointer (some ⟨X[i].e,0,none⟩),.slice lo l.length lc] W (PlyAdd w0 P X r v ps i X[i] l W) :=
 (addP_any (h.many.env _ (List.getElem_mem hi)) l lo lc hr hl hrs).mono fun _ _ ⟨hy,M,mo',v',P',h1,h2,h3,h4,h5,_⟩ => ⟨hy,M,mo',v',P',h1,h.turn hi h2 h3 h4 h5,h3⟩
theorem Ply.addOne {w0 W : World} {P : Nat → Prop} {X : List EnvR} {r : Nat} {v : Value} {ps : List (Inf × IHd)} (h : Ply w0 W P X r v ps) {i : Nat} (hi : i < X.length) {x : Inf} {hx : IHd} (f : FirmI P W x hx) (hr : x.rules.length ≤ 1000) :
 Calls Tryz.prog 20 #[.pointer (some ⟨X[i].e,0,none⟩),.slice (some ⟨W.heap.size,0,none⟩) 1 1] (W.alloc (.cells (x.vals hx).toArray 46)) (PlyAdd w0 P X r v ps i X[i] [x] W) := by
 have hb : Below W.heap.size W (W.alloc (.cells (x.vals hx).toArray 46)) := below_one _ _
 refine ((h.below hb).add hi [x] (some ⟨W.heap.size,0,none⟩) 1 (one_row f h.many.lt _) (by simp) (fun y hy => by simp at hy; subst hy; exact hr)).mono ?_
 rintro y W' ⟨hy,M,mo',v',P',h1,h2,h3⟩
 exact ⟨hy,M,mo',v',P',h1,h2,(Step.of_below hb).trans h3⟩
def PlyRef (w0 : World) (P : Nat → Prop) (X : List EnvR) (r : Nat) (ps : List (Inf × IHd)) (l : List Inf) (W : World) (y : Ending) (W' : World) : Prop :=
 y = .returned (.int .i64 (addA (entI (infR ps)) l)) ∧ ∃ v' ps' P',Ply w0 W' P' X r v' ps' ∧ infR ps' = (if addA (entI (infR ps)) l = 0 then addL (infR ps) l else infR ps) ∧ Step P P' W W'
theorem Ply.radd {w0 W : World} {P : Nat → Prop} {X : List EnvR} {r : Nat} {v : Value} {ps : List (Inf × IHd)} (h : Ply w0 W P X r v ps) (l : List Inf) (lo : Option Addr) (lc : Nat) (hr : InfFirm P W lo l) (hlc : l.length ≤ lc) (hl : l.length ≤ 1000) (hrs : ∀ x ∈ l,x.rules.length ≤ 1000) :
 Calls Tryz.prog 21 #[.pointer (some ⟨r,0,none⟩),.slice lo l.length lc] W (PlyRef w0 P X r ps l W) := by
 refine (add7_any h.ref l lo lc hr hlc hl hrs).mono ?_
 rintro y W' ⟨hy,v',ps',P',h1,h2,h3,h4,h5,h6⟩
 refine ⟨hy,v',ps',P',⟨h.many.side h3 h.ref.ownP (fun i hi q a => h.sep i hi q a) h5 h6 h1.lt,h1,fun i hi q a b => ?_⟩,h2,⟨h3.wide h.ref.ownP,h5,h6⟩⟩
 rcases h4 q b with c | c
 ·exact h.sep i hi q a c
 ·have := h.many.lt q ((h.many.env _ (List.getElem_mem hi)).own q a)
  omega
def PlyWith (w0 : World) (P : Nat → Prop) (X : List EnvR) (r : Nat) (v : Value) (ps : List (Inf × IHd)) (x : EnvR) (l : List Inf) (W : World) (y : Ending) (W' : World) : Prop :=
 (addA x.L l ≠ 0 ∧ y = .returned (.tuple #[.pointer none,.int .i64 (addA x.L l)]) ∧ Ply w0 W' P X r v ps ∧ Step P P W W') ∨
 (addA x.L l = 0 ∧ ∃ e' M mo' v' P',y = .returned (.tuple #[.pointer (some ⟨e',0,none⟩),.int .i64 0]) ∧ Added x.L l M ∧ Ply w0 W' P' (X ++ [⟨e',M,mo',v'⟩]) r v ps ∧ Step P P' W W')
theorem Ply.with_ {w0 W : World} {P : Nat → Prop} {X : List EnvR} {r : Nat} {v : Value} {ps : List (Inf × IHd)} (h : Ply w0 W P X r v ps) {i : Nat} (hi : i < X.length) (l : List Inf) (lo : Option Addr) (lc : Nat) (hr : InfFirm P W lo l) (hl : l.length ≤ 1000000) (hrs : ∀ x ∈ l,x.rules.length ≤ 1000) :
 Calls Tryz.prog 19 #[.pointer (some ⟨X[i].e,0,none⟩),.slice lo l.length lc] W (PlyWith w0 P X r v ps X[i] l W) := by
 refine (withE_any (h.many.env _ (List.getElem_mem hi)).env l lo lc h.many.lt hr hl hrs).mono ?_
 rintro y W' ⟨b,⟨f,rfl,hf⟩ | ⟨h1,h2,e',M,mo',v',rfl,h3,h4,h5,h6⟩⟩
 ·have hA : addA X[i].L l = f ∧ f ≠ 0 := by
   unfold addA
   rcases hf with ⟨a,rfl⟩ | ⟨a,c,rfl⟩
   ·exact ⟨if_pos a,by decide⟩
   ·exact ⟨if_neg (by omega),c⟩
  exact Or.inl ⟨by rw [hA.1]; exact hA.2,by rw [hA.1],h.below b,Step.of_below b⟩
 ·have hA : addA X[i].L l = 0 := by unfold addA; rw [if_neg (by omega),h2]
  have hm := h.many.push b h4 h5 (fun p hp => (h6 p hp).imp (fun a => ⟨_,List.getElem_mem hi,a⟩) id)
  refine Or.inr ⟨hA,e',M,mo',v',_,rfl,h3,⟨hm,h.ref.other (R := fun _ => False) (RanS.of_below b) (fun _ a => a.elim) (fun _ _ a => a) (fun q a => a.imp id (h5 q)) (fun q a => Or.inl a) hm.lt h.many.bel.size,fun j hj q a c => ?_⟩,⟨RanS.of_below b,fun q a => a.imp id (h5 q),fun q a => Or.inl a⟩⟩
  rw [List.length_append,List.length_singleton] at hj
  by_cases e1 : j < X.length
  ·rw [List.getElem_append_left e1] at a
   exact h.sep j e1 q a c
  ·rw [List.getElem_append_right (by omega)] at a
   simp at a
   have h7 := h5 q a
   have := h.ref.lt q (h.ref.ownP q c)
   omega
def Fine (M : List Ent) : Prop := ∀ p ∈ M,p.2.1.rules.length ≤ 20 ∧ nameOk p.2.1.name = true ∧ p.2.1.ty.may = true ∧ (p.2.1.kind = 2 → p.2.1.va.may = true)
theorem wrongI_fine {L : List Ent} {ks : List (List UInt8)} {i : Nat} {x : Inf} (h : wrongI L ks i x = 0) : nameOk x.name = true ∧ x.ty.may = true ∧ (x.kind = 2 → x.va.may = true) := by
 have h1 := wrongI_zero h
 refine ⟨?_,h1.2.2.2.2 _ (by simp [Inf.terms]),fun hk => h1.2.2.2.2 _ (by simp [Inf.terms,Inf.hv,hk])⟩
 unfold wrongI at h
 cases hn : nameOk x.name
 ·rw [if_pos hn] at h; simp at h
 ·rfl
theorem Added.fine {L M : List Ent} {l : List Inf} (a : Added L l M) (hl : ∀ x ∈ l,x.rules.length ≤ 20 ∧ nameOk x.name = true ∧ x.ty.may = true ∧ (x.kind = 2 → x.va.may = true)) (h : Fine L) : Fine M := by
 induction a with
 | nil => exact h
 | snoc x b hd h2 ih =>
   intro p hp
   rcases List.mem_append.1 hp with hp | hp
   ·exact ih (fun y hy => hl y (by simp [hy])) p hp
   ·simp at hp; subst hp
    obtain ⟨h3,h4,h5,h6⟩ := hl x (by simp)
    refine ⟨h3,h4,h5,fun hk => ?_⟩
    have hk2 : x.kind = 2 := hk
    have hv : x.hv = true := by simp [Inf.hv,hk2]
    show (if x.hv = true then x.va else zeroT).may = true
    rw [if_pos hv]
    exact h6 hk2
theorem AddTo.fine {L M : List Ent} {l : List Inf} (a : AddTo L l M) (hl : ∀ x ∈ l,x.rules.length ≤ 20) (h : Fine L) : Fine M := by
 rcases a with ⟨h0,a⟩ | ⟨_,rfl⟩
 ·refine a.fine (fun x hx => ⟨hl x hx,?_⟩) h
  obtain ⟨j,hj,rfl⟩ := List.getElem_of_mem hx
  have h1 : wrongL L l = 0 := by
   unfold addA at h0
   split at h0
   ·simp at h0
   ·exact h0
  exact wrongI_fine (wrongL_all h1 j hj)
 ·exact h
theorem AddTo.infR_is {L M : List Ent} {l : List Inf} {N N' : List Inf} (a : AddTo L l M) (e : infs L = N) (h : N' = (if addA (entI N) l = 0 then addL N l else N)) : infs M = N' := by
 have e2 : addA L l = addA (entI N) l := addA_alike (by rw [infs_entI]; exact e) l
 rcases a with ⟨h0,a⟩ | ⟨h0,rfl⟩
 ·rw [h,if_pos (by rw [← e2]; exact h0),a.infs_is,e]
 ·rw [h,if_neg (by rw [← e2]; exact h0),e]
theorem AddTo.len {L M : List Ent} {l : List Inf} (a : AddTo L l M) : L.length ≤ M.length := by
 rcases a with ⟨_,a⟩ | ⟨_,rfl⟩
 ·have h := congrArg List.length a.infs_is
  rw [addL_len] at h
  simp [infs] at h
  omega
 ·exact Nat.le_refl _
theorem slice_infos2 {l : List Inf} {lo : Option Addr} {lc k m : Nat} {w : World} (h1 : (0 : Int) ≤ (k : Int)) (h2 : (k : Int) ≤ (k : Int) + (m : Int)) (h3 : (k : Int) + (m : Int) ≤ (lc : Int)) (h : InfRow w.heap.size w lo l) (hl : k + m ≤ l.length) :
 ∃ (so : Option Addr) (sc : Nat),(∀ W : World,(Instr.slice 22 (.slice lo l.length lc) (some (.int .i64 (k : Int))) (some (.int .i64 ((k : Int) + (m : Int)))) none).run Tryz.prog W = .ok (.slice so m sc) W) ∧ InfRow w.heap.size w so ((l.drop k).take m) ∧ m ≤ sc := by
 have h4 : (0 : Int) ≤ (k : Int) + (m : Int) := by omega
 have h5 : k ≤ lc := by omega
 have h7 : ((k : Int) + (m : Int)).toNat = k + m := by omega
 by_cases hk : k < lc
 ·have h6 : ¬ lc = k := by omega
  cases lo with
  | none =>
    have h0 : l.length = 0 := by
     rcases Nat.eq_zero_or_pos l.length with a | a
     ·exact a
     ·obtain ⟨_,_,_,q,_⟩ := h.place 0 a
      cases q
    refine ⟨none,lc - k,fun W => ?_,⟨fun j hj => by rw [List.length_take,List.length_drop] at hj; omega⟩,by omega⟩
    have hk0 : k = 0 := by omega
    have hm0 : m = 0 := by omega
    subst hk0 hm0
    simp [go_sem,sliced]
  | some ad =>
    by_cases hm : m = 0
    ·subst hm
     refine ⟨some (ad.add (k * 25)),lc - k,fun W => ?_,⟨fun j hj => by simp at hj⟩,by omega⟩
     simp [go_sem,sliced,h5,h6]
    ·obtain ⟨b,off,_,q,_⟩ := h.place 0 (by omega)
     injection q with q
     subst q
     refine ⟨some ⟨b,off + k * 25,none⟩,lc - k,fun W => ?_,h.sub,by omega⟩
     have h8 : ((k : Int) + (m : Int) ≤ (lc : Int)) = True := eq_true h3
     have h10 : ((k : Int) ≤ (k : Int) + (m : Int)) = True := eq_true h2
     simp [go_sem,sliced,h6,h7,h8,h10,Trm.add_none]
 ·have hm0 : m = 0 := by omega
  subst hm0
  have h6 : lc = k := by omega
  refine ⟨lo,lc - k,fun W => ?_,⟨fun j hj => by simp at hj⟩,by omega⟩
  simp [go_sem,sliced,h6]
structure BRow (B : Nat) (w : World) (ao : Option Addr) (zs : List Int) : Prop where
 place : ∀ k (hk : k < zs.length),∃ b off,ao = some ⟨b,off,none⟩ ∧ b < B ∧ w.cell? ⟨b,off + k,none⟩ = some (.int .u8 zs[k]) ∧ 0 ≤ zs[k] ∧ zs[k] ≤ 255
theorem BRow.carry {w w' : World} {ao : Option Addr} {zs : List Int} (h : BRow w.heap.size w ao zs) (g : Below w.heap.size w w') : BRow w'.heap.size w' ao zs := ⟨fun k hk => by
 obtain ⟨b,off,h1,h2,h3,h4⟩ := h.place k hk
 exact ⟨b,off,h1,Nat.lt_of_lt_of_le h2 g.size,(g.cell (p := ⟨b,off + k,none⟩) h2).trans h3,h4⟩⟩
theorem part_to {z : Int} {n k : Nat} (hk : k ≤ n) : ∃ m : Nat,min (n : Int) ((k : Int) + z % 4) = (k : Int) + (m : Int) ∧ k + m ≤ n ∧ 0 ≤ z % 4 ∧ z % 4 ≤ 3 := by
 have h1 := Int.emod_lt_of_pos z (show (0 : Int) < 4 by omega)
 have h2 := Int.emod_nonneg z (show (4 : Int) ≠ 0 by omega)
 generalize z % 4 = q at *
 exact ⟨min (n - k) q.toNat,by omega,by omega,h2,by omega⟩
def P1Rel (w0 : World) (ea r : Nat) (l : List Inf) (np : Nat) (vat vi : Value) (wr : World) : Prop := ∃ (k at_ : Nat) (M : List Ent) (mo : Option Nat) (v vr : Value) (ps : List (Inf × IHd)) (P : Nat → Prop),vi = .int .i64 k ∧ vat = .int .i64 at_ ∧ k ≤ np ∧ at_ ≤ l.length ∧ Fine M ∧ infs M = infR ps ∧ Ply w0 wr P [⟨ea,M,mo,v⟩] r vr ps
def P2Rel (w0 : World) (P : Nat → Prop) (X : List EnvR) (r : Nat) (vr : Value) (ps : List (Inf × IHd)) (ga : Option Addr) (N : List ByteArray) (vi : Value) (wr : World) : Prop := ∃ j : Nat,vi = .int .i64 j ∧ j ≤ N.length ∧ Ply w0 wr P X r vr ps ∧ StrRow wr ga N
theorem play_look {M : List Ent} {ps : List (Inf × IHd)} {N : List ByteArray} (hN : N = nms M) (h : infs M = infR ps) (hn : (M.map ekey).Nodup) {j : Nat} (hj : j < N.length) : ∃ x p,∃ hj2 : j < ps.length,N[j] = x.name ∧ lookE M (key x.name) = some p ∧ p.2.1 = x ∧ p ∈ M ∧ ps[j].1 = x := by
 subst hN
 have hjM : j < M.length := by rw [nms_len] at hj; exact hj
 have hl : M.length = ps.length := by have := congrArg List.length h; simpa [infs,infR] using this
 have e : M[j].2.1 = ps[j].1 := by
  have h1 : (infs M)[j]? = (infR ps)[j]? := by rw [h]
  unfold infs infR at h1
  rw [List.getElem?_map,List.getElem?_map,List.getElem?_eq_getElem hjM,List.getElem?_eq_getElem (by omega)] at h1
  simpa using h1
 exact ⟨M[j].2.1,M[j],by omega,by simp [nms,infs],lookE_nodup hn j hjM,rfl,List.getElem_mem hjM,e.symm⟩
theorem Ply.other {w0 W W' : World} {P P' R : Nat → Prop} {X : List EnvR} {r : Nat} {v : Value} {ps : List (Inf × IHd)} (h : Ply w0 W P X r v ps) (hr : RanS R W W') (hR : ∀ q,R q → P q) (hne : ∀ i (hi : i < X.length) q,X[i].own q → ¬ R q) (hne2 : ∀ q,ownR r v q → ¬ R q) (hP : ∀ q,P' q → P q ∨ W.heap.size ≤ q) (hw : ∀ q,P q → P' q) (hl : ∀ q,P' q → q < W'.heap.size) : Ply w0 W' P' X r v ps :=
 ⟨h.many.side hr hR hne hP hw hl,h.ref.other hr hR hne2 hP hw hl h.many.bel.size,h.sep⟩
def tcon (s : ByteArray) (t : Tm) : Tm := .mk 3 0 s t.ls []
def TWRow (B : Nat) (w : World) (t : Tm) (ht : Hd) (L : List Tm) (n : Nat) (v : Value) : Prop := ∃ qs : List (Tm × Hd),n = qs.length ∧ w.ownsRow B 27 5 v n (flat qs) ∧ qs.map (·.1) = L ∧ ∀ p ∈ qs,p.1.In B w p.2 ∧ p.1.ls = t.ls ∧ p.2.lc = ht.lc
structure P3St (w0 W : World) (P : Nat → Prop) (X : List EnvR) (r : Nat) (vr : Value) (ps : List (Inf × IHd)) (t : Tm) (ht : Hd) (L : List Tm) (n : Nat) (v : Value) : Prop where
 ply : Ply w0 W P X r vr ps
 row : TWRow w0.heap.size W t ht L n v
 own : ∀ q,v.ownBlock = some q → P q ∧ (∀ i (hi : i < X.length),¬ X[i].own q) ∧ ¬ ownR r vr q
theorem P3St.one {w0 W : World} {P : Nat → Prop} {X : List EnvR} {r : Nat} {vr : Value} {ps : List (Inf × IHd)} {t : Tm} {ht : Hd} (h : Ply w0 W P X r vr ps) (hin : t.In w0.heap.size W ht) : P3St w0 (W.alloc (.cells (t.vals ht) 27)) (fun q => P q ∨ q = W.heap.size) X r vr ps t ht [t] 1 (.slice (some ⟨W.heap.size,0,none⟩) 1 1) := by
 have hb := below_one W (.cells (t.vals ht) 27)
 refine ⟨h.other (R := fun _ => False) (RanS.of_below hb) (fun _ a => a.elim) (fun _ _ _ _ a => a) (fun _ _ a => a) (fun q hq => hq.imp id (fun a => by omega)) (fun q a => Or.inl a) (fun q hq => ?_),?_,fun q hq => ?_⟩
 ·rw [World.size_alloc]
  rcases hq with a | a
  ·have := h.many.lt q a; omega
  ·omega
 ·refine ⟨[(t,ht)],rfl,?_,rfl,fun p hp => ?_⟩
  ·rw [show flat [(t,ht)] = (t.vals ht).toList by simp [flat]]
   exact World.ownsRow_lit W (t.vals ht) 1 h.many.bel.size (by decide) rfl
  ·simp at hp
   subst hp
   exact ⟨hin.below (hb.mono h.many.bel.size),rfl,rfl⟩
 ·injection hq with hq
  have hq2 : W.heap.size = q := hq
  refine ⟨Or.inr hq2.symm,fun i hi a => ?_,fun a => ?_⟩
  ·have := h.many.lt q ((h.many.env _ (List.getElem_mem hi)).own q a); omega
  ·have := h.ref.lt q (h.ref.ownP q a); omega
theorem P3St.push {w0 W W6 : World} {P : Nat → Prop} {X : List EnvR} {r g1 cap1 n : Nat} {vr v : Value} {ps : List (Inf × IHd)} {t : Tm} {ht : Hd} {L : List Tm} {o : Obj} {qs : List (Tm × Hd)} (h : P3St w0 W P X r vr ps t ht L n v) (hn : n = qs.length) (hrow : W.ownsRow w0.heap.size 27 5 v n (flat qs)) (hmap : qs.map (·.1) = L) (hlie : ∀ p ∈ qs,p.1.In w0.heap.size W p.2 ∧ p.1.ls = t.ls ∧ p.2.lc = ht.lc)
 {u : Tm} {hu : Hd} (hin : u.In w0.heap.size W hu) (hls : u.ls = t.ls) (hlc : hu.lc = ht.lc)
 (hown : W6.ownsRow w0.heap.size 27 5 (.slice (some ⟨g1,0,none⟩) (n + 1) cap1) (n + 1) (flat qs ++ (u.vals hu).toList)) (hg : (W.drew.alloc o).grownBy W6 v.ownBlock) (hat : v.ownBlock = some g1 ∨ g1 = W.heap.size + 1) (hlt : g1 < W6.heap.size) :
 ∃ P',P3St w0 W6 P' X r vr ps t ht (L ++ [u]) (n + 1) (.slice (some ⟨g1,0,none⟩) (n + 1) cap1) := by
 have hs6 := hg.size
 rw [World.size_alloc] at hs6
 have hs6' : W.heap.size + 1 ≤ W6.heap.size := hs6
 have r10 : RanS (fun q => v.ownBlock = some q) W W6 := ⟨hg.os,hg.tape,hg.output,by omega,fun k hk hn => by
  have h1 := hg.block k (by rw [World.size_alloc]; show k < W.heap.size + 1; omega) (fun a => hn a.symm)
  have h2 : (W.drew.alloc o).heap[k]? = W.drew.heap[k]? := (below_one W.drew o).block k hk
  exact h1.trans h2⟩
 have hgP : ∀ q,(P q ∨ q = g1) → P q ∨ W.heap.size ≤ q := fun q hq => by
  rcases hq with a | a
  ·exact Or.inl a
  ·rcases hat with b | b
   ·exact Or.inl (h.own q (a ▸ b)).1
   ·exact Or.inr (by omega)
 have hbl : Below w0.heap.size W W6 := r10.below (fun q hq => (hrow.lt q hq).1) h.ply.many.bel.size
 refine ⟨fun q => P q ∨ q = g1,h.ply.other r10 (fun q a => (h.own q a).1) (fun i hi q a b => (h.own q b).2.1 i hi a) (fun q a b => (h.own q b).2.2 a) hgP (fun q a => Or.inl a) (fun q hq => ?_),⟨qs ++ [(u,hu)],by simp [hn],?_,by simp [hmap],fun p hp => ?_⟩,fun q hq => ?_⟩
 ·rcases hq with a | a
  ·have := h.ply.many.lt q a; omega
  ·omega
 ·rw [show flat (qs ++ [(u,hu)]) = flat qs ++ (u.vals hu).toList by simp [flat]]
  exact hown
 ·rcases List.mem_append.1 hp with hp | hp
  ·exact ⟨(hlie p hp).1.below hbl,(hlie p hp).2⟩
  ·simp at hp
   subst hp
   exact ⟨hin.below hbl,hls,hlc⟩
 ·injection hq with hq
  have hq2 : g1 = q := hq
  refine ⟨Or.inr hq2.symm,fun i hi a => ?_,fun a => ?_⟩
  ·rcases hat with b | b
   ·exact (h.own g1 b).2.1 i hi (hq2 ▸ a)
   ·have := h.ply.many.lt q ((h.ply.many.env _ (List.getElem_mem hi)).own q a); omega
  ·rcases hat with b | b
   ·exact (h.own g1 b).2.2 (hq2 ▸ a)
   ·have := h.ply.ref.lt q (h.ply.ref.ownP q a); omega
def P3Rel (w0 : World) (X : List EnvR) (r : Nat) (vr : Value) (ps : List (Inf × IHd)) (t : Tm) (ht : Hd) (l : List Inf) (vall vi : Value) (wr : World) : Prop := ∃ (k n : Nat) (P : Nat → Prop),vi = .int .i64 k ∧ k ≤ l.length ∧ n = k + 1 ∧ P3St w0 wr P X r vr ps t ht (t :: (l.take k).map (fun x => tcon x.name t)) n vall
def P4Rel (w8 : World) (n : Nat) (vi : Value) (wr : World) : Prop := ∃ j : Nat,vi = .int .i64 j ∧ j ≤ n ∧ Below w8.heap.size w8 wr
theorem row_terms {B n : Nat} {w : World} {v : Value} {qs : List (Tm × Hd)} (h : w.ownsRow B 27 5 v n (flat qs)) (hn : n = qs.length) {j : Nat} (hj : j < qs.length) : ∃ g cap,v = .slice (some ⟨g,0,none⟩) n cap ∧ TCells w g (j * 5) qs[j].1 qs[j].2 ∧ g < w.heap.size := by
 subst hn
 obtain ⟨g,cap,hv,_,hg⟩ := h.form (by omega)
 have key : ∀ i u,i < 5 → ((qs[j].1.vals qs[j].2).toList)[i]? = some u → w.cell? ⟨g,j * 5 + i,none⟩ = some u := fun i u hi hu => by
  have h1 := h.cells (g := g) (by rw [hv]; rfl) (j * 5 + i) u (by rw [flat_at qs j hj i hi]; simpa using hu)
  rw [Trm.add_none,Nat.zero_add] at h1
  exact h1
 exact ⟨g,cap,hv,⟨key 0 _ (by omega) rfl,key 1 _ (by omega) rfl,key 2 _ (by omega) rfl,key 3 _ (by omega) rfl,key 4 _ (by omega) rfl⟩,hg⟩
theorem deep_levels {t : Tm} (h : t.deep = false) : t.ls.length ≤ 1000000 := by
 unfold Tm.deep at h
 rw [Tm.left_eq] at h
 by_cases hb : (131072 : Int) - 1 < 0 ∨ (8192 : Int) ≤ 0 ∨ (fun x : Tm => decide (20 < x.ls.length)) t = true
 ·rw [if_pos hb] at h; simp at h
 ·have h2 : ¬ 20 < t.ls.length := fun hh => hb (Or.inr (Or.inr (by simpa using hh)))
  omega
end Env
end Go.Proofs.YtiekbhlnnmnklaaGreat
