/-
 RulesNil's call,given that works answers true.
-/
import Derived.Lib.Hide
import Derived.Test.YthkiedoijckjiaaGreatQB31
open Go.Lib (hid)
set_option maxRecDepth 100000
set_option maxHeartbeats 32000000
namespace Go.Proofs.YthkiedoijckjiaaGreat
open Go.RowKit Go.Shelf Go.Maps Lvl Trm Env
theorem Trm.firm_none {w : World} {t : Tm} {h : Hd} (hin : t.In w.heap.size w h) : FirmS (fun _ => False) w t h := fun _ hr =>
 Tm.In.mono hr.size _ _ (Tm.In.below (hr.below (B := w.heap.size) (fun _ a => a.elim) (Nat.le_refl _)) _ _ hin)
theorem law_rules_nil (HW : Typ.WorksC) (t0 : Tm) (e0 : Hd) (t1 : Tm) (e1 : Hd) (s2 : ByteArray) (W : World) (i0 : t0.In W.heap.size W e0) (i1 : t1.In W.heap.size W e1) :
 Calls Tryz.prog 4 #[t0.val e0,t1.val e1,.string s2] W fun e w' => e = .returned (.bool true) ∧ Below W.heap.size W w' := by
 refine (Typ.RulesNil_made HW (fun _ => False) t0 t1 s2 [t0.val e0,t1.val e1,.string s2] W (fun _ a => a.elim) ⟨_,_,rfl,Typ.vok_tm (firm_none i0),_,_,rfl,Typ.vok_tm (firm_none i1),_,_,rfl,⟨[_],Typ.ok_dat rfl rfl,Or.inr ⟨rfl,rfl⟩⟩,rfl⟩).mono ?_
 rintro e w' ⟨v,rfl,b,h⟩
 cases Typ.arg_dat h
 exact ⟨rfl,b⟩
end Go.Proofs.YthkiedoijckjiaaGreat
