/-
 RulesNumbers' call.
-/
import Derived.Lib.Hide
import Derived.Test.YthkiedoijckjiaaGreatQB36
import Derived.Test.YthkiedoijckjiaaGreatQRulesNilLaw
open Go.Lib (hid)
set_option maxRecDepth 100000
set_option maxHeartbeats 32000000
namespace Go.Proofs.YthkiedoijckjiaaGreat
open Go.RowKit Go.Shelf Go.Maps Lvl Trm Env
open Typ in
theorem RulesNumbers_made (P : Nat → Prop) (q : Int) (c z s : Tm) (vs : List Value) (w : World) (hP : ∀ q,P q → q < w.heap.size) (hv : VArgs P w [(false,[.dat (.int .u8 q)]),(true,[.tm c]),(true,[.tm z]),(true,[.tm s])] vs) (hq0 : 0 ≤ q) (hq1 : q ≤ 255) :
 Calls Tryz.prog 3 vs.toArray w (MadeV P w (.val false [.dat (.bool true)])) := by
 have hK0 : 0 ≤ ((IntKind.i64.wrap q).tmod 100) ∧ ((IntKind.i64.wrap q).tmod 100) < 100 := by
  rw [IntWalk.i64_in _ (by omega)]
  exact ⟨Int.tmod_nonneg _ hq0,Int.tmod_lt_of_pos _ (by decide)⟩
 have k1 : decide ((0 : Int) ≤ ((IntKind.i64.wrap q).tmod 100)) = true := decide_eq_true hK0.1
 have k2 : decide (((IntKind.i64.wrap q).tmod 100) ≤ 1000000) = true := decide_eq_true (by omega)
 cases h1 : c.deep
 ·skip
  cases h2 : z.deep
  ·skip
   cases h3 : s.deep
   ·skip
    cases h4 : c.may
    ·exact Typ.fn_ok (p := ⟨sp25,167,[(29,false),(32,false),(36,false),(40,false)],[],false,[]⟩) (par_ok sp25_ok) Tryz.func3 rfl rfl (rs := [.tmp 8]) rfl (by kernel_rfl) (ss := [(false,[.dat (.int .u8 q)]),(true,[.tm c]),(true,[.tm z]),(true,[.tm s])]) (r := .val false [.dat (.bool true)]) (by simp) ((show _ = some (_,((c.deep == false) && ((z.deep == false) && ((s.deep == false) && ((c.may == false) && true))))) by kernel_rfl).trans (by rw [h1,h2,h3,h4]; rfl)) P w vs hP hv
    ·skip
     cases h5 : z.may
     ·exact Typ.fn_ok (p := ⟨sp25,167,[(29,false),(32,false),(36,false),(40,true),(45,false)],[],false,[]⟩) (par_ok sp25_ok) Tryz.func3 rfl rfl (rs := [.tmp 8]) rfl (by kernel_rfl) (ss := [(false,[.dat (.int .u8 q)]),(true,[.tm c]),(true,[.tm z]),(true,[.tm s])]) (r := .val false [.dat (.bool true)]) (by simp) ((show _ = some (_,((c.deep == false) && ((z.deep == false) && ((s.deep == false) && ((c.may == true) && ((z.may == false) && true)))))) by kernel_rfl).trans (by rw [h1,h2,h3,h4,h5]; rfl)) P w vs hP hv
     ·skip
      cases h6 : s.may
      ·exact Typ.fn_ok (p := ⟨sp25,167,[(29,false),(32,false),(36,false),(40,true),(45,true),(50,false)],[],false,[]⟩) (par_ok sp25_ok) Tryz.func3 rfl rfl (rs := [.tmp 8]) rfl (by kernel_rfl) (ss := [(false,[.dat (.int .u8 q)]),(true,[.tm c]),(true,[.tm z]),(true,[.tm s])]) (r := .val false [.dat (.bool true)]) (by simp) ((show _ = some (_,((c.deep == false) && ((z.deep == false) && ((s.deep == false) && ((c.may == true) && ((z.may == true) && ((s.may == false) && true))))))) by kernel_rfl).trans (by rw [h1,h2,h3,h4,h5,h6]; rfl)) P w vs hP hv
      ·skip
       have z1 := size_ok h4
       have z2 := size_ok h5
       have z3 := size_ok h6
       cases h7 : decide ((IntKind.i64.wrap (IntKind.i64.wrap (c.size + z.size) + s.size)) > 1000)
       ·skip
        have hsz : c.size + z.size + s.size ≤ 1000 := by
         have h0 := of_decide_eq_false h7
         have := may_size h4
         have := may_size h5
         have := may_size h6
         have := c.size_pos
         have := z.size_pos
         have := s.size_pos
         rw [IntWalk.i64_in (c.size + z.size) (by omega),IntWalk.i64_in _ (by omega)] at h0
         omega
        cases h8 : (appl recN [c,z,s,(Smp.num ((IntKind.i64.wrap q).tmod 100).toNat)]).may
        ·exact Typ.fn_ok (p := ⟨sp25,167,[(29,false),(32,false),(36,false),(40,true),(45,true),(50,true),(62,false),(81,false)],[],false,[]⟩) (par_ok sp25_ok) Tryz.func3 rfl rfl (rs := [.tmp 8]) rfl (by kernel_rfl) (ss := [(false,[.dat (.int .u8 q)]),(true,[.tm c]),(true,[.tm z]),(true,[.tm s])]) (r := .val false [.dat (.bool true)]) (by simp) ((show _ = some (_,((c.deep == false) && ((z.deep == false) && ((s.deep == false) && ((c.may == true) && ((z.may == true) && ((s.may == true) && (((decide (c.size ≤ 1000000000000)) && true) && (((decide (z.size ≤ 1000000000000)) && true) && (((decide (s.size ≤ 1000000000000)) && true) && ((decide ((IntKind.i64.wrap (IntKind.i64.wrap (c.size + z.size) + s.size)) > 1000) == false) && (((decide ((0 : Int) ≤ ((IntKind.i64.wrap q).tmod 100)) && decide (((IntKind.i64.wrap q).tmod 100) ≤ 1000000)) && true) && (((appl recN [c,z,s,(Smp.num ((IntKind.i64.wrap q).tmod 100).toNat)]).may == false) && true))))))))))))) by kernel_rfl).trans (by rw [h1,h2,h3,h4,h5,h6,z1,z2,z3,h7,k1,k2,h8]; rfl)) P w vs hP hv
        ·skip
         have e1 := spM_of' h8 (by decide) (by simp)
         obtain ⟨k,hk⟩ : ∃ k : Nat,((IntKind.i64.wrap q).tmod 100) = (k : Int) := ⟨((IntKind.i64.wrap q).tmod 100).toNat,by omega⟩
         have hk99 : k < 100 := by omega
         have hkn : ((IntKind.i64.wrap q).tmod 100).toNat = k := by omega
         have hM := num_ok hk99
         have hT2 : (appl cSucc [(Smp.num ((IntKind.i64.wrap q).tmod 100).toNat),(Smp.num ((IntKind.i64.wrap q).tmod 100).toNat)]).may = true := by
          rw [hkn]
          exact appl_may (by decide) (by intro x hx; simp at hx; rw [hx]; exact hM.1) 300 (by rw [sizeL,sizeL,sizeL]; have := hM.2.1; have : cSucc.size = 1 := (by decide); simp only [List.length_cons,List.length_nil]; omega) (by decide) (by intro x hx; simp at hx; rw [hx]; exact hM.2.2) (by simp)
         have e2 := spM_of' hT2 (by decide) (by simp)
         obtain ⟨i2,j2⟩ := iot_two e1 e2
         have y2 : ((iot Smp.smpL (appl recN [c,z,s,(Smp.num ((IntKind.i64.wrap q).tmod 100).toNat)]) (appl cSucc [(Smp.num ((IntKind.i64.wrap q).tmod 100).toNat),(Smp.num ((IntKind.i64.wrap q).tmod 100).toNat)])).2 == 6) = true := by rw [i2]; rfl
         rw [Bool.and_eq_true] at j2
         have j22 := j2.2
         cases k with
         | zero =>
           have b1 : decide (((IntKind.i64.wrap q).tmod 100) > 0) = false := decide_eq_false (by omega)
           have b2 : (((IntKind.i64.wrap q).tmod 100) == 0) = true := by rw [hk]; rfl
           obtain ⟨i1,j1⟩ := iot_zero (m := (Smp.num ((IntKind.i64.wrap q).tmod 100).toNat)) e1 (by rw [hkn]; exact num_zero)
           have hx : (appl nB0 [c,z,s]).may = true := appl_turn (l := []) h8 nB0_ok.1 (of_decide_eq_true nB0_ok.2.1) (of_decide_eq_true nB0_ok.2.2.1) hsz (by simp) (by simp)
           rw [apA_ok hx (may_k hx)] at i1
           rw [Bool.and_eq_true] at j1
           have j11 := j1.1
           have j12 := j1.2
           have x1 : ((iot Smp.smpL (appl recN [c,z,s,(Smp.num ((IntKind.i64.wrap q).tmod 100).toNat)]) (Smp.num ((IntKind.i64.wrap q).tmod 100).toNat)).2 != 0) = false := by rw [i1]; rfl
           have x2 : (iot Smp.smpL (appl recN [c,z,s,(Smp.num ((IntKind.i64.wrap q).tmod 100).toNat)]) (Smp.num ((IntKind.i64.wrap q).tmod 100).toNat)).1.may = true := by rw [i1]; exact hx
           have e3 : (spM (iot Smp.smpL (appl recN [c,z,s,(Smp.num ((IntKind.i64.wrap q).tmod 100).toNat)]) (Smp.num ((IntKind.i64.wrap q).tmod 100).toNat)).1) = (nB0,[c,z,s]) := by rw [i1]; exact spM_of' hx (by rw [nB0_ok.2.2.2]; decide) (by simp)
           have x3 : ((spM (iot Smp.smpL (appl recN [c,z,s,(Smp.num ((IntKind.i64.wrap q).tmod 100).toNat)]) (Smp.num ((IntKind.i64.wrap q).tmod 100).toNat)).1).1.k != 5) = false := by rw [e3]; show (nB0.k != 5) = false; rw [nB0_ok.2.2.2]; rfl
           have x4 : (((spM (iot Smp.smpL (appl recN [c,z,s,(Smp.num ((IntKind.i64.wrap q).tmod 100).toNat)]) (Smp.num ((IntKind.i64.wrap q).tmod 100).toNat)).1).2.length : Int) != 3) = false := by rw [e3]; rfl
           have r0 : decide (0 < (spM (iot Smp.smpL (appl recN [c,z,s,(Smp.num ((IntKind.i64.wrap q).tmod 100).toNat)]) (Smp.num ((IntKind.i64.wrap q).tmod 100).toNat)).1).2.length) = true := by rw [e3]; rfl
           have r1 : decide (1 < (spM (iot Smp.smpL (appl recN [c,z,s,(Smp.num ((IntKind.i64.wrap q).tmod 100).toNat)]) (Smp.num ((IntKind.i64.wrap q).tmod 100).toNat)).1).2.length) = true := by rw [e3]; rfl
           have r2 : decide (2 < (spM (iot Smp.smpL (appl recN [c,z,s,(Smp.num ((IntKind.i64.wrap q).tmod 100).toNat)]) (Smp.num ((IntKind.i64.wrap q).tmod 100).toNat)).1).2.length) = true := by rw [e3]; rfl
           have s0 : same ((spM (iot Smp.smpL (appl recN [c,z,s,(Smp.num ((IntKind.i64.wrap q).tmod 100).toNat)]) (Smp.num ((IntKind.i64.wrap q).tmod 100).toNat)).1).2.getD 0 zeroT) c = true := by rw [e3]; exact same_iff.2 rfl
           have s1 : same ((spM (iot Smp.smpL (appl recN [c,z,s,(Smp.num ((IntKind.i64.wrap q).tmod 100).toNat)]) (Smp.num ((IntKind.i64.wrap q).tmod 100).toNat)).1).2.getD 1 zeroT) z = true := by rw [e3]; exact same_iff.2 rfl
           have s2 : same ((spM (iot Smp.smpL (appl recN [c,z,s,(Smp.num ((IntKind.i64.wrap q).tmod 100).toNat)]) (Smp.num ((IntKind.i64.wrap q).tmod 100).toNat)).1).2.getD 2 zeroT) s = true := by rw [e3]; exact same_iff.2 rfl
           exact Typ.fn_ok (p := ⟨sp25,167,[(29,false),(32,false),(36,false),(40,true),(45,true),(50,true),(62,false),(81,true),(92,false),(95,true),(104,false),(107,false),(112,false),(119,true),(127,true),(135,true),(150,true),(162,true)],[],false,[]⟩) (par_ok sp25_ok) Tryz.func3 rfl rfl (rs := [.tmp 8]) rfl (by kernel_rfl) (ss := [(false,[.dat (.int .u8 q)]),(true,[.tm c]),(true,[.tm z]),(true,[.tm s])]) (r := .val false [.dat (.bool true)]) (by simp) ((show _ = some (_,((c.deep == false) && ((z.deep == false) && ((s.deep == false) && ((c.may == true) && ((z.may == true) && ((s.may == true) && (((decide (c.size ≤ 1000000000000)) && true) && (((decide (z.size ≤ 1000000000000)) && true) && (((decide (s.size ≤ 1000000000000)) && true) && ((decide ((IntKind.i64.wrap (IntKind.i64.wrap (c.size + z.size) + s.size)) > 1000) == false) && (((decide ((0 : Int) ≤ ((IntKind.i64.wrap q).tmod 100)) && decide (((IntKind.i64.wrap q).tmod 100) ≤ 1000000)) && true) && (((appl recN [c,z,s,(Smp.num ((IntKind.i64.wrap q).tmod 100).toNat)]).may == true) && (((decide ((rcr Smp.smpL (spM (appl recN [c,z,s,(Smp.num ((IntKind.i64.wrap q).tmod 100).toNat)])).1 ((spM (appl recN [c,z,s,(Smp.num ((IntKind.i64.wrap q).tmod 100).toNat)])).2.length : Int)).1.rules.length ≤ 1000000) && iotC Smp.smpL (appl recN [c,z,s,(Smp.num ((IntKind.i64.wrap q).tmod 100).toNat)]) (Smp.num ((IntKind.i64.wrap q).tmod 100).toNat)) && true) && ((((iot Smp.smpL (appl recN [c,z,s,(Smp.num ((IntKind.i64.wrap q).tmod 100).toNat)]) (Smp.num ((IntKind.i64.wrap q).tmod 100).toNat)).2 != 0) == false) && (((iot Smp.smpL (appl recN [c,z,s,(Smp.num ((IntKind.i64.wrap q).tmod 100).toNat)]) (Smp.num ((IntKind.i64.wrap q).tmod 100).toNat)).1.may == true) && (((iot Smp.smpL (appl recN [c,z,s,(Smp.num ((IntKind.i64.wrap q).tmod 100).toNat)]) (Smp.num ((IntKind.i64.wrap q).tmod 100).toNat)).1.may && true) && ((decide (((IntKind.i64.wrap q).tmod 100) > 0) == false) && ((((spM (iot Smp.smpL (appl recN [c,z,s,(Smp.num ((IntKind.i64.wrap q).tmod 100).toNat)]) (Smp.num ((IntKind.i64.wrap q).tmod 100).toNat)).1).1.k != 5) == false) && (((((spM (iot Smp.smpL (appl recN [c,z,s,(Smp.num ((IntKind.i64.wrap q).tmod 100).toNat)]) (Smp.num ((IntKind.i64.wrap q).tmod 100).toNat)).1).2.length : Int) != 3) == false) && (((decide ((0 : Int) ≤ 0) && decide (0 < (spM (iot Smp.smpL (appl recN [c,z,s,(Smp.num ((IntKind.i64.wrap q).tmod 100).toNat)]) (Smp.num ((IntKind.i64.wrap q).tmod 100).toNat)).1).2.length)) && true) && ((same ((spM (iot Smp.smpL (appl recN [c,z,s,(Smp.num ((IntKind.i64.wrap q).tmod 100).toNat)]) (Smp.num ((IntKind.i64.wrap q).tmod 100).toNat)).1).2.getD 0 zeroT) c == true) && (((decide ((0 : Int) ≤ 1) && decide (1 < (spM (iot Smp.smpL (appl recN [c,z,s,(Smp.num ((IntKind.i64.wrap q).tmod 100).toNat)]) (Smp.num ((IntKind.i64.wrap q).tmod 100).toNat)).1).2.length)) && true) && ((same ((spM (iot Smp.smpL (appl recN [c,z,s,(Smp.num ((IntKind.i64.wrap q).tmod 100).toNat)]) (Smp.num ((IntKind.i64.wrap q).tmod 100).toNat)).1).2.getD 1 zeroT) z == true) && (((decide ((0 : Int) ≤ 2) && decide (2 < (spM (iot Smp.smpL (appl recN [c,z,s,(Smp.num ((IntKind.i64.wrap q).tmod 100).toNat)]) (Smp.num ((IntKind.i64.wrap q).tmod 100).toNat)).1).2.length)) && true) && ((same ((spM (iot Smp.smpL (appl recN [c,z,s,(Smp.num ((IntKind.i64.wrap q).tmod 100).toNat)]) (Smp.num ((IntKind.i64.wrap q).tmod 100).toNat)).1).2.getD 2 zeroT) s == true) && (((decide ((rcr Smp.smpL (spM (appl recN [c,z,s,(Smp.num ((IntKind.i64.wrap q).tmod 100).toNat)])).1 ((spM (appl recN [c,z,s,(Smp.num ((IntKind.i64.wrap q).tmod 100).toNat)])).2.length : Int)).1.rules.length ≤ 1000000) && iotC Smp.smpL (appl recN [c,z,s,(Smp.num ((IntKind.i64.wrap q).tmod 100).toNat)]) (appl cSucc [(Smp.num ((IntKind.i64.wrap q).tmod 100).toNat),(Smp.num ((IntKind.i64.wrap q).tmod 100).toNat)])) && true) && (((((IntKind.i64.wrap q).tmod 100) == 0) == true) && ((((iot Smp.smpL (appl recN [c,z,s,(Smp.num ((IntKind.i64.wrap q).tmod 100).toNat)]) (appl cSucc [(Smp.num ((IntKind.i64.wrap q).tmod 100).toNat),(Smp.num ((IntKind.i64.wrap q).tmod 100).toNat)])).2 == 6) == true) && true))))))))))))))))))))))))))))) by kernel_rfl).trans (by rw [h1,h2,h3,h4,h5,h6,z1,z2,z3,h7,k1,k2,h8,j11,j12,x1,x2,b1,x3,x4,r0,s0,r1,s1,r2,s2,j22,b2,y2]; rfl)) P w vs hP hv
         | succ k =>
           have b1 : decide (((IntKind.i64.wrap q).tmod 100) > 0) = true := decide_eq_true (by omega)
           have b2 : (((IntKind.i64.wrap q).tmod 100) == 0) = false := by rw [hk]; exact beq_eq_false_iff_ne.2 (by omega)
           have hN := num_ok (k := k) (by omega)
           obtain ⟨i1,j1⟩ := iot_succ (m := (Smp.num ((IntKind.i64.wrap q).tmod 100).toNat)) (N := Smp.num k) e1 (by rw [hkn]; exact num_succ (by omega))
           have hx : (appl nB1 [c,z,s,Smp.num k]).may = true := appl_turn (l := [Smp.num k]) h8 nB1_ok.1 (of_decide_eq_true nB1_ok.2.1) (of_decide_eq_true nB1_ok.2.2.1) hsz (by intro x hx; simp at hx; rw [hx]; exact ⟨hN.1,by omega,by omega⟩) (by simp)
           rw [apA_ok hx (may_k hx)] at i1
           rw [Bool.and_eq_true] at j1
           have j11 := j1.1
           have j12 := j1.2
           have x1 : ((iot Smp.smpL (appl recN [c,z,s,(Smp.num ((IntKind.i64.wrap q).tmod 100).toNat)]) (Smp.num ((IntKind.i64.wrap q).tmod 100).toNat)).2 != 0) = false := by rw [i1]; rfl
           have x2 : (iot Smp.smpL (appl recN [c,z,s,(Smp.num ((IntKind.i64.wrap q).tmod 100).toNat)]) (Smp.num ((IntKind.i64.wrap q).tmod 100).toNat)).1.may = true := by rw [i1]; exact hx
           have e3 : (spM (iot Smp.smpL (appl recN [c,z,s,(Smp.num ((IntKind.i64.wrap q).tmod 100).toNat)]) (Smp.num ((IntKind.i64.wrap q).tmod 100).toNat)).1) = (nB1,[c,z,s,Smp.num k]) := by rw [i1]; exact spM_of' hx (by rw [nB1_ok.2.2.2]; decide) (by simp)
           have x3 : ((spM (iot Smp.smpL (appl recN [c,z,s,(Smp.num ((IntKind.i64.wrap q).tmod 100).toNat)]) (Smp.num ((IntKind.i64.wrap q).tmod 100).toNat)).1).1.k != 5) = false := by rw [e3]; show (nB1.k != 5) = false; rw [nB1_ok.2.2.2]; rfl
           have x4 : (((spM (iot Smp.smpL (appl recN [c,z,s,(Smp.num ((IntKind.i64.wrap q).tmod 100).toNat)]) (Smp.num ((IntKind.i64.wrap q).tmod 100).toNat)).1).2.length : Int) != 4) = false := by rw [e3]; rfl
           have r0 : decide (0 < (spM (iot Smp.smpL (appl recN [c,z,s,(Smp.num ((IntKind.i64.wrap q).tmod 100).toNat)]) (Smp.num ((IntKind.i64.wrap q).tmod 100).toNat)).1).2.length) = true := by rw [e3]; rfl
           have r1 : decide (1 < (spM (iot Smp.smpL (appl recN [c,z,s,(Smp.num ((IntKind.i64.wrap q).tmod 100).toNat)]) (Smp.num ((IntKind.i64.wrap q).tmod 100).toNat)).1).2.length) = true := by rw [e3]; rfl
           have r2 : decide (2 < (spM (iot Smp.smpL (appl recN [c,z,s,(Smp.num ((IntKind.i64.wrap q).tmod 100).toNat)]) (Smp.num ((IntKind.i64.wrap q).tmod 100).toNat)).1).2.length) = true := by rw [e3]; rfl
           have s0 : same ((spM (iot Smp.smpL (appl recN [c,z,s,(Smp.num ((IntKind.i64.wrap q).tmod 100).toNat)]) (Smp.num ((IntKind.i64.wrap q).tmod 100).toNat)).1).2.getD 0 zeroT) c = true := by rw [e3]; exact same_iff.2 rfl
           have s1 : same ((spM (iot Smp.smpL (appl recN [c,z,s,(Smp.num ((IntKind.i64.wrap q).tmod 100).toNat)]) (Smp.num ((IntKind.i64.wrap q).tmod 100).toNat)).1).2.getD 1 zeroT) z = true := by rw [e3]; exact same_iff.2 rfl
           have s2 : same ((spM (iot Smp.smpL (appl recN [c,z,s,(Smp.num ((IntKind.i64.wrap q).tmod 100).toNat)]) (Smp.num ((IntKind.i64.wrap q).tmod 100).toNat)).1).2.getD 2 zeroT) s = true := by rw [e3]; exact same_iff.2 rfl
           have hP1 : (IntKind.i64.wrap (((IntKind.i64.wrap q).tmod 100) - 1)) = (k : Int) := by rw [IntWalk.i64_in _ (by omega)]; omega
           have p1 : decide ((0 : Int) ≤ (IntKind.i64.wrap (((IntKind.i64.wrap q).tmod 100) - 1))) = true := decide_eq_true (by omega)
           have p2 : decide ((IntKind.i64.wrap (((IntKind.i64.wrap q).tmod 100) - 1)) ≤ 1000000) = true := decide_eq_true (by omega)
           have r3 : decide (3 < (spM (iot Smp.smpL (appl recN [c,z,s,(Smp.num ((IntKind.i64.wrap q).tmod 100).toNat)]) (Smp.num ((IntKind.i64.wrap q).tmod 100).toNat)).1).2.length) = true := by rw [e3]; rfl
           have s3 : same ((spM (iot Smp.smpL (appl recN [c,z,s,(Smp.num ((IntKind.i64.wrap q).tmod 100).toNat)]) (Smp.num ((IntKind.i64.wrap q).tmod 100).toNat)).1).2.getD 3 zeroT) (Smp.num (IntKind.i64.wrap (((IntKind.i64.wrap q).tmod 100) - 1)).toNat) = true := by rw [e3,hP1]; exact same_iff.2 rfl
           exact Typ.fn_ok (p := ⟨sp25,167,[(29,false),(32,false),(36,false),(40,true),(45,true),(50,true),(62,false),(81,true),(92,false),(95,true),(104,true),(107,false),(112,false),(119,true),(127,true),(135,true),(150,false),(158,true),(162,true)],[],false,[]⟩) (par_ok sp25_ok) Tryz.func3 rfl rfl (rs := [.tmp 8]) rfl (by kernel_rfl) (ss := [(false,[.dat (.int .u8 q)]),(true,[.tm c]),(true,[.tm z]),(true,[.tm s])]) (r := .val false [.dat (.bool true)]) (by simp) ((show _ = some (_,((c.deep == false) && ((z.deep == false) && ((s.deep == false) && ((c.may == true) && ((z.may == true) && ((s.may == true) && (((decide (c.size ≤ 1000000000000)) && true) && (((decide (z.size ≤ 1000000000000)) && true) && (((decide (s.size ≤ 1000000000000)) && true) && ((decide ((IntKind.i64.wrap (IntKind.i64.wrap (c.size + z.size) + s.size)) > 1000) == false) && (((decide ((0 : Int) ≤ ((IntKind.i64.wrap q).tmod 100)) && decide (((IntKind.i64.wrap q).tmod 100) ≤ 1000000)) && true) && (((appl recN [c,z,s,(Smp.num ((IntKind.i64.wrap q).tmod 100).toNat)]).may == true) && (((decide ((rcr Smp.smpL (spM (appl recN [c,z,s,(Smp.num ((IntKind.i64.wrap q).tmod 100).toNat)])).1 ((spM (appl recN [c,z,s,(Smp.num ((IntKind.i64.wrap q).tmod 100).toNat)])).2.length : Int)).1.rules.length ≤ 1000000) && iotC Smp.smpL (appl recN [c,z,s,(Smp.num ((IntKind.i64.wrap q).tmod 100).toNat)]) (Smp.num ((IntKind.i64.wrap q).tmod 100).toNat)) && true) && ((((iot Smp.smpL (appl recN [c,z,s,(Smp.num ((IntKind.i64.wrap q).tmod 100).toNat)]) (Smp.num ((IntKind.i64.wrap q).tmod 100).toNat)).2 != 0) == false) && (((iot Smp.smpL (appl recN [c,z,s,(Smp.num ((IntKind.i64.wrap q).tmod 100).toNat)]) (Smp.num ((IntKind.i64.wrap q).tmod 100).toNat)).1.may == true) && (((iot Smp.smpL (appl recN [c,z,s,(Smp.num ((IntKind.i64.wrap q).tmod 100).toNat)]) (Smp.num ((IntKind.i64.wrap q).tmod 100).toNat)).1.may && true) && ((decide (((IntKind.i64.wrap q).tmod 100) > 0) == true) && ((((spM (iot Smp.smpL (appl recN [c,z,s,(Smp.num ((IntKind.i64.wrap q).tmod 100).toNat)]) (Smp.num ((IntKind.i64.wrap q).tmod 100).toNat)).1).1.k != 5) == false) && (((((spM (iot Smp.smpL (appl recN [c,z,s,(Smp.num ((IntKind.i64.wrap q).tmod 100).toNat)]) (Smp.num ((IntKind.i64.wrap q).tmod 100).toNat)).1).2.length : Int) != 4) == false) && (((decide ((0 : Int) ≤ 0) && decide (0 < (spM (iot Smp.smpL (appl recN [c,z,s,(Smp.num ((IntKind.i64.wrap q).tmod 100).toNat)]) (Smp.num ((IntKind.i64.wrap q).tmod 100).toNat)).1).2.length)) && true) && ((same ((spM (iot Smp.smpL (appl recN [c,z,s,(Smp.num ((IntKind.i64.wrap q).tmod 100).toNat)]) (Smp.num ((IntKind.i64.wrap q).tmod 100).toNat)).1).2.getD 0 zeroT) c == true) && (((decide ((0 : Int) ≤ 1) && decide (1 < (spM (iot Smp.smpL (appl recN [c,z,s,(Smp.num ((IntKind.i64.wrap q).tmod 100).toNat)]) (Smp.num ((IntKind.i64.wrap q).tmod 100).toNat)).1).2.length)) && true) && ((same ((spM (iot Smp.smpL (appl recN [c,z,s,(Smp.num ((IntKind.i64.wrap q).tmod 100).toNat)]) (Smp.num ((IntKind.i64.wrap q).tmod 100).toNat)).1).2.getD 1 zeroT) z == true) && (((decide ((0 : Int) ≤ 2) && decide (2 < (spM (iot Smp.smpL (appl recN [c,z,s,(Smp.num ((IntKind.i64.wrap q).tmod 100).toNat)]) (Smp.num ((IntKind.i64.wrap q).tmod 100).toNat)).1).2.length)) && true) && ((same ((spM (iot Smp.smpL (appl recN [c,z,s,(Smp.num ((IntKind.i64.wrap q).tmod 100).toNat)]) (Smp.num ((IntKind.i64.wrap q).tmod 100).toNat)).1).2.getD 2 zeroT) s == true) && (((decide ((rcr Smp.smpL (spM (appl recN [c,z,s,(Smp.num ((IntKind.i64.wrap q).tmod 100).toNat)])).1 ((spM (appl recN [c,z,s,(Smp.num ((IntKind.i64.wrap q).tmod 100).toNat)])).2.length : Int)).1.rules.length ≤ 1000000) && iotC Smp.smpL (appl recN [c,z,s,(Smp.num ((IntKind.i64.wrap q).tmod 100).toNat)]) (appl cSucc [(Smp.num ((IntKind.i64.wrap q).tmod 100).toNat),(Smp.num ((IntKind.i64.wrap q).tmod 100).toNat)])) && true) && (((((IntKind.i64.wrap q).tmod 100) == 0) == false) && (((decide ((0 : Int) ≤ 3) && decide (3 < (spM (iot Smp.smpL (appl recN [c,z,s,(Smp.num ((IntKind.i64.wrap q).tmod 100).toNat)]) (Smp.num ((IntKind.i64.wrap q).tmod 100).toNat)).1).2.length)) && true) && (((decide ((0 : Int) ≤ (IntKind.i64.wrap (((IntKind.i64.wrap q).tmod 100) - 1))) && decide ((IntKind.i64.wrap (((IntKind.i64.wrap q).tmod 100) - 1)) ≤ 1000000)) && true) && ((same ((spM (iot Smp.smpL (appl recN [c,z,s,(Smp.num ((IntKind.i64.wrap q).tmod 100).toNat)]) (Smp.num ((IntKind.i64.wrap q).tmod 100).toNat)).1).2.getD 3 zeroT) (Smp.num (IntKind.i64.wrap (((IntKind.i64.wrap q).tmod 100) - 1)).toNat) == true) && ((((iot Smp.smpL (appl recN [c,z,s,(Smp.num ((IntKind.i64.wrap q).tmod 100).toNat)]) (appl cSucc [(Smp.num ((IntKind.i64.wrap q).tmod 100).toNat),(Smp.num ((IntKind.i64.wrap q).tmod 100).toNat)])).2 == 6) == true) && true)))))))))))))))))))))))))))))))) by kernel_rfl).trans (by rw [h1,h2,h3,h4,h5,h6,z1,z2,z3,h7,k1,k2,h8,j11,j12,x1,x2,b1,x3,x4,r0,s0,r1,s1,r2,s2,j22,b2,r3,p1,p2,s3,y2]; rfl)) P w vs hP hv
       ·exact Typ.fn_ok (p := ⟨sp25,167,[(29,false),(32,false),(36,false),(40,true),(45,true),(50,true),(62,true)],[],false,[]⟩) (par_ok sp25_ok) Tryz.func3 rfl rfl (rs := [.tmp 8]) rfl (by kernel_rfl) (ss := [(false,[.dat (.int .u8 q)]),(true,[.tm c]),(true,[.tm z]),(true,[.tm s])]) (r := .val false [.dat (.bool true)]) (by simp) ((show _ = some (_,((c.deep == false) && ((z.deep == false) && ((s.deep == false) && ((c.may == true) && ((z.may == true) && ((s.may == true) && (((decide (c.size ≤ 1000000000000)) && true) && (((decide (z.size ≤ 1000000000000)) && true) && (((decide (s.size ≤ 1000000000000)) && true) && ((decide ((IntKind.i64.wrap (IntKind.i64.wrap (c.size + z.size) + s.size)) > 1000) == true) && true))))))))))) by kernel_rfl).trans (by rw [h1,h2,h3,h4,h5,h6,z1,z2,z3,h7]; rfl)) P w vs hP hv
   ·exact Typ.fn_ok (p := ⟨sp25,167,[(29,false),(32,false),(36,true)],[],false,[]⟩) (par_ok sp25_ok) Tryz.func3 rfl rfl (rs := [.tmp 8]) rfl (by kernel_rfl) (ss := [(false,[.dat (.int .u8 q)]),(true,[.tm c]),(true,[.tm z]),(true,[.tm s])]) (r := .val false [.dat (.bool true)]) (by simp) ((show _ = some (_,((c.deep == false) && ((z.deep == false) && ((s.deep == true) && true)))) by kernel_rfl).trans (by rw [h1,h2,h3]; rfl)) P w vs hP hv
  ·exact Typ.fn_ok (p := ⟨sp25,167,[(29,false),(32,true)],[],false,[]⟩) (par_ok sp25_ok) Tryz.func3 rfl rfl (rs := [.tmp 8]) rfl (by kernel_rfl) (ss := [(false,[.dat (.int .u8 q)]),(true,[.tm c]),(true,[.tm z]),(true,[.tm s])]) (r := .val false [.dat (.bool true)]) (by simp) ((show _ = some (_,((c.deep == false) && ((z.deep == true) && true))) by kernel_rfl).trans (by rw [h1,h2]; rfl)) P w vs hP hv
 ·exact Typ.fn_ok (p := ⟨sp25,167,[(29,true)],[],false,[]⟩) (par_ok sp25_ok) Tryz.func3 rfl rfl (rs := [.tmp 8]) rfl (by kernel_rfl) (ss := [(false,[.dat (.int .u8 q)]),(true,[.tm c]),(true,[.tm z]),(true,[.tm s])]) (r := .val false [.dat (.bool true)]) (by simp) ((show _ = some (_,((c.deep == true) && true)) by kernel_rfl).trans (by rw [h1]; rfl)) P w vs hP hv
theorem law_rules_numbers (z0 : Int) (t1 : Tm) (e1 : Hd) (t2 : Tm) (e2 : Hd) (t3 : Tm) (e3 : Hd) (W : World) (z00 : 0 ≤ z0) (z01 : z0 ≤ 255) (i1 : t1.In W.heap.size W e1) (i2 : t2.In W.heap.size W e2) (i3 : t3.In W.heap.size W e3) :
 Calls Tryz.prog 3 #[.int .u8 z0,t1.val e1,t2.val e2,t3.val e3] W fun e w' => e = .returned (.bool true) ∧ Below W.heap.size W w' := by
 refine (RulesNumbers_made (fun _ => False) z0 t1 t2 t3 [.int .u8 z0,t1.val e1,t2.val e2,t3.val e3] W (fun _ a => a.elim) ⟨_,_,rfl,⟨[_],Typ.ok_dat rfl rfl,Or.inr ⟨rfl,rfl⟩⟩,_,_,rfl,Typ.vok_tm (firm_none i1),_,_,rfl,Typ.vok_tm (firm_none i2),_,_,rfl,Typ.vok_tm (firm_none i3),rfl⟩ z00 z01).mono ?_
 rintro e w' ⟨v,rfl,b,h⟩
 cases Typ.arg_dat h
 exact ⟨rfl,b⟩
end Go.Proofs.YthkiedoijckjiaaGreat
