/-
 RulesFields' call.
-/
import Derived.Lib.Hide
import Derived.Test.YthkiedoijckjiaaGreatQB35
import Derived.Test.YthkiedoijckjiaaGreatQRulesNilLaw
open Go.Lib (hid)
set_option maxRecDepth 100000
set_option maxHeartbeats 32000000
namespace Go.Proofs.YthkiedoijckjiaaGreat
open Go.RowKit Go.Shelf Go.Maps Lvl Trm Env
namespace Typ
noncomputable def rfT (a b c d : Tm) (n : Int) (S z : Int) : Tbl Sl := [(4,.val false [.dat (.int .i64 n)]),(5,.var 25 [.tm a]),(6,.var 25 [.tm b]),(7,.var 25 [.tm c]),(8,.var 25 [.tm d]),(11,.val false [.env Smp.smpL]),(13,.val false [.tms [a,b,c,d]]),(14,.val false [.dat (.int .i64 S)]),(15,.val false [.dat (.int .i64 z)])]
noncomputable def rfP (ov : List (Nat × Bool)) : Par := ⟨sp25,161,ov,[],false,[]⟩
end Typ
open Typ in
theorem RulesFields_made (P : Nat → Prop) (a b c d : Tm) (n : Int) (vs : List Value) (w : World) (hP : ∀ q,P q → q < w.heap.size) (hv : VArgs P w [(true,[.tm a]),(true,[.tm b]),(true,[.tm c]),(true,[.tm d]),(false,[.dat (.int .i64 n)])] vs) (hn0 : -9223372036854775808 ≤ n) :
 Calls Tryz.prog 5 vs.toArray w (MadeV P w (.val false [.dat (.bool true)])) := by
 have hm : Tryz.prog.follows .mixedOrders = true := by kernel_rfl
 have hs : ∀ ov,ParOk (rfP ov) := fun _ => par_ok sp25_ok
 have hlen := hv.len
 refine calls_of_wp Tryz.func5 rfl ?_
 have st := start_ok (p := rfP []) (P := P) (w := w) hP hv (by simp [rfP])
 refine wp_seq (piece_ok (p := rfP []) (hs _) hm (T' := [(4,.val false [.dat (.int .i64 n)]),(5,.var 25 [.tm a]),(6,.var 25 [.tm b]),(7,.var 25 [.tm c]),(8,.var 25 [.tm d])]) (e := .normal) (need := true) (by kernel_rfl) rfl st fun a1 w1 s1 => ?_)
 refine wp_seq (piece_ok (p := rfP []) (hs _) hm (T' := [(4,.val false [.dat (.int .i64 n)]),(5,.var 25 [.tm a]),(6,.var 25 [.tm b]),(7,.var 25 [.tm c]),(8,.var 25 [.tm d]),(11,.val false [.env Smp.smpL]),(12,.val false [.dat (.bool true)])]) (e := .normal) (need := true) (by kernel_rfl) rfl s1 fun a2 w2 s2 => ?_)
 refine wp_seq (piece_ok (p := rfP []) (hs _) hm (T' := [(4,.val false [.dat (.int .i64 n)]),(5,.var 25 [.tm a]),(6,.var 25 [.tm b]),(7,.var 25 [.tm c]),(8,.var 25 [.tm d]),(11,.val false [.env Smp.smpL])]) (e := .normal) (need := true) (by kernel_rfl) rfl s2 fun a3 w3 s3 => ?_)
 refine wp_seq (piece_ok (p := rfP []) (hs _) hm (T' := [(4,.val false [.dat (.int .i64 n)]),(5,.var 25 [.tm a]),(6,.var 25 [.tm b]),(7,.var 25 [.tm c]),(8,.var 25 [.tm d]),(11,.val false [.env Smp.smpL]),(13,.val false [.tms [a,b,c,d]])]) (e := .normal) (need := true) (by kernel_rfl) rfl s3 fun a5 w5 s5 => ?_)
 refine wp_seq (piece_ok (p := rfP []) (hs _) hm (T' := [(4,.val false [.dat (.int .i64 n)]),(5,.var 25 [.tm a]),(6,.var 25 [.tm b]),(7,.var 25 [.tm c]),(8,.var 25 [.tm d]),(11,.val false [.env Smp.smpL]),(13,.val false [.tms [a,b,c,d]]),(14,.val false [.dat (.int .i64 0)])]) (e := .normal) (need := true) (by kernel_rfl) rfl s5 fun a6 w6 s6 => ?_)
 refine wp_seq ?_
 refine wp_seq (piece_ok (p := rfP []) (hs _) hm (T' := rfT a b c d n 0 0) (e := .normal) (need := true) (by kernel_rfl) rfl s6 fun a7 w7 s7 => ?_)
 refine wp_block ?_
 refine Typ.wp_loop_ghost (γ := Nat × Int) (fun g a' w' => St P w (rfP []) (rfT a b c d n g.2 g.1) a' w' ∧ g.1 ≤ 4) (fun g => 4 - g.1) (g0 := (0,0)) ⟨s7,by decide⟩ ?_
 rintro ⟨g,S⟩ a' w' ⟨s,hg⟩
 dsimp only at s hg
 by_cases hlt : g < 4
 ·have hw : IntKind.i64.wrap ((g : Int) + 1) = ((g + 1 : Nat) : Int) := by rw [IntWalk.i64_in _ (by omega)]; simp
  have l1 : decide ((g : Int) < 4) = true := decide_eq_true (by omega)
  have l2 : decide ((0 : Int) ≤ (g : Int)) = true := decide_eq_true (by omega)
  have l3 : decide (g < 4) = true := decide_eq_true hlt
  cases h1 : ([a,b,c,d].getD g zeroT).deep
  ·cases h2 : ([a,b,c,d].getD g zeroT).may
   ·refine piece_ok (p := rfP [(39,true),(46,false),(52,false)]) (hs _) hm (T' := [(10,.val false [.dat (.bool true)])]) (e := .ret) (need := ((decide ((g : Int) < 4) == true) && (((decide ((0 : Int) ≤ (g : Int)) && decide (g < 4)) && true) && ((([a,b,c,d].getD g zeroT).deep == false) && (((decide ((0 : Int) ≤ (g : Int)) && decide (g < 4)) && true) && ((([a,b,c,d].getD g zeroT).may == false) && true)))))) (by kernel_rfl) (by rw [h1,h2,l1,l2,l3]; rfl) (s.par rfl rfl) fun a4 w4 s4 => ?_
    exact s4.post rfl
   ·have h4 := size_ok h2
    cases h3 : decide (([a,b,c,d].getD g zeroT).size > 1000)
    ·refine piece_ok (p := rfP [(39,true),(46,false),(52,true),(61,false)]) (hs _) hm (T' := rfT a b c d n (IntKind.i64.wrap (S + ([a,b,c,d].getD g zeroT).size)) (IntKind.i64.wrap ((g : Int) + 1))) (e := .normal) (need := ((decide ((g : Int) < 4) == true) && (((decide ((0 : Int) ≤ (g : Int)) && decide (g < 4)) && true) && ((([a,b,c,d].getD g zeroT).deep == false) && (((decide ((0 : Int) ≤ (g : Int)) && decide (g < 4)) && true) && ((([a,b,c,d].getD g zeroT).may == true) && (((decide ((0 : Int) ≤ (g : Int)) && decide (g < 4)) && true) && (((decide (([a,b,c,d].getD g zeroT).size ≤ 1000000000000)) && true) && ((decide (([a,b,c,d].getD g zeroT).size > 1000) == false) && (((decide ((0 : Int) ≤ (g : Int)) && decide (g < 4)) && true) && (((decide (([a,b,c,d].getD g zeroT).size ≤ 1000000000000)) && true) && true))))))))))) (by kernel_rfl) (by rw [h1,h2,h3,h4,l1,l2,l3]; rfl) (s.par rfl rfl) fun a4 w4 s4 => ?_
     rw [hw] at s4
     exact ⟨(g + 1,_),⟨s4.par rfl rfl,by show g + 1 ≤ 4; omega⟩,by show 4 - (g + 1) < 4 - g; omega⟩
    ·refine piece_ok (p := rfP [(39,true),(46,false),(52,true),(61,true)]) (hs _) hm (T' := [(10,.val false [.dat (.bool true)])]) (e := .ret) (need := ((decide ((g : Int) < 4) == true) && (((decide ((0 : Int) ≤ (g : Int)) && decide (g < 4)) && true) && ((([a,b,c,d].getD g zeroT).deep == false) && (((decide ((0 : Int) ≤ (g : Int)) && decide (g < 4)) && true) && ((([a,b,c,d].getD g zeroT).may == true) && (((decide ((0 : Int) ≤ (g : Int)) && decide (g < 4)) && true) && (((decide (([a,b,c,d].getD g zeroT).size ≤ 1000000000000)) && true) && ((decide (([a,b,c,d].getD g zeroT).size > 1000) == true) && true))))))))) (by kernel_rfl) (by rw [h1,h2,h3,h4,l1,l2,l3]; rfl) (s.par rfl rfl) fun a4 w4 s4 => ?_
     exact s4.post rfl
  ·refine piece_ok (p := rfP [(39,true),(46,true)]) (hs _) hm (T' := [(10,.val false [.dat (.bool true)])]) (e := .ret) (need := ((decide ((g : Int) < 4) == true) && (((decide ((0 : Int) ≤ (g : Int)) && decide (g < 4)) && true) && ((([a,b,c,d].getD g zeroT).deep == true) && true)))) (by kernel_rfl) (by rw [h1,l1,l2,l3]; rfl) (s.par rfl rfl) fun a4 w4 s4 => ?_
   exact s4.post rfl
 ·have l1 : decide ((g : Int) < 4) = false := decide_eq_false (by omega)
  refine piece_ok (p := rfP [(39,false)]) (hs _) hm (T' := rfT a b c d n S g) (e := .exit 0) (need := (decide ((g : Int) < 4) == false) && true) (by kernel_rfl) (by rw [l1]; rfl) (s.par rfl rfl) fun a4 w4 s4 => ?_
  clear s s7 s6 s5 s3 s2 s1 st l1 hlt hg
  generalize hgz : (g : Int) = z at s4
  clear hgz
  cases h1 : decide (S > 1000)
  ·cases h2 : (appl cPm [a,b,c,d]).may
   ·exact tail_ok (p := rfP [(79,false),(82,false)]) (hs _) hm (rs := [.tmp 10]) (r := .val false [.dat (.bool true)]) (need := ((decide (S > 1000) == false) && (((appl cPm [a,b,c,d]).may == false) && true))) rfl (by kernel_rfl) (by rw [h1,h2]; rfl) (s4.par rfl rfl)
   ·have e4 := spM_of' h2 (by decide) (by simp)
    have h3 : (appl cPm [a,b,c]).may = true := (appl_facts (f := (appl cPm [a,b,c])) (l := [d]) h2).2
    have e3 := spM_of' h3 (by decide) (by simp)
    obtain ⟨c4,f4⟩ := fld_pm n e4
    obtain ⟨c3,f3⟩ := fld_pm n e3
    have f5 : fldC Smp.smpL n (appl (appl cPm [a,b,c,d]) [d]) = true ∧ fldA Smp.smpL sPair n (appl (appl cPm [a,b,c,d]) [d]) = (zeroT,false) := by
     cases h5 : (appl (appl cPm [a,b,c,d]) [d]).may
     ·exact fld_no n (spM_no h5)
     ·have e5 : spM (appl (appl cPm [a,b,c,d]) [d]) = (cPm,[a,b,c,d,d]) := spM_of' (g := cPm) (m := [a,b,c,d,d]) h5 (by decide) (by simp)
      exact fld_pm n e5
    obtain ⟨c5,f5⟩ := f5
    have fl := fld_list n (appl cPm [a,b,c,d])
    have z1 : decide (sPair.size ≤ 9223372036854775807) = true := by decide
    have z2 : decide (sList.size ≤ 9223372036854775807) = true := by decide
    have f3 : fldA Smp.smpL sPair n (appl cPm [a,b,c]) = (zeroT,false) := f3
    have y3 : (fldA Smp.smpL sPair n (appl cPm [a,b,c])).2 = false := by rw [f3]
    have y5 : (fldA Smp.smpL sPair n (appl (appl cPm [a,b,c,d]) [d])).2 = false := by rw [f5]
    have yl : (fldA Smp.smpL sList n (appl cPm [a,b,c,d])).2 = false := by rw [fl]
    by_cases hn : n = 0
    ·subst hn
     have y4 : fldA Smp.smpL sPair 0 (appl cPm [a,b,c,d]) = (c,true) := f4
     have k1 : (fldA Smp.smpL sPair 0 (appl cPm [a,b,c,d])).2 = true := by rw [y4]
     have k2 : same (fldA Smp.smpL sPair 0 (appl cPm [a,b,c,d])).1 c = true := by rw [y4]; exact same_iff.2 rfl
     exact tail_ok (p := rfP [(79,false),(82,true),(92,true),(104,false),(114,false),(121,false),(135,true)]) (hs _) hm (rs := [.tmp 10]) (r := .val false [.dat (.bool true)]) (need := ((decide (S > 1000) == false) && (((appl cPm [a,b,c,d]).may == true) && (((decide (sPair.size ≤ 9223372036854775807) && fldC Smp.smpL 0 (appl cPm [a,b,c,d])) && true) && (((fldA Smp.smpL sPair 0 (appl cPm [a,b,c,d])).2 == true) && (((decide (sPair.size ≤ 9223372036854775807) && fldC Smp.smpL 0 (appl cPm [a,b,c])) && true) && (((fldA Smp.smpL sPair 0 (appl cPm [a,b,c])).2 == false) && (((decide (sPair.size ≤ 9223372036854775807) && fldC Smp.smpL 0 (appl (appl cPm [a,b,c,d]) [d])) && true) && (((fldA Smp.smpL sPair 0 (appl (appl cPm [a,b,c,d]) [d])).2 == false) && (((decide (sList.size ≤ 9223372036854775807) && fldC Smp.smpL 0 (appl cPm [a,b,c,d])) && true) && (((fldA Smp.smpL sList 0 (appl cPm [a,b,c,d])).2 == false) && ((same (fldA Smp.smpL sPair 0 (appl cPm [a,b,c,d])).1 c == true) && true)))))))))))) rfl (by kernel_rfl) (by rw [h1,h2,c4,c3,c5,z1,z2,y3,y5,yl,k1,k2]; rfl) (s4.par rfl rfl)
    ·by_cases hn1 : n = 1
     ·subst hn1
      have y4 : fldA Smp.smpL sPair 1 (appl cPm [a,b,c,d]) = (d,true) := f4
      have k1 : (fldA Smp.smpL sPair 1 (appl cPm [a,b,c,d])).2 = true := by rw [y4]
      have k2 : same (fldA Smp.smpL sPair 1 (appl cPm [a,b,c,d])).1 d = true := by rw [y4]; exact same_iff.2 rfl
      exact tail_ok (p := rfP [(79,false),(82,true),(92,true),(104,false),(114,false),(121,false),(146,true)]) (hs _) hm (rs := [.tmp 10]) (r := .val false [.dat (.bool true)]) (need := ((decide (S > 1000) == false) && (((appl cPm [a,b,c,d]).may == true) && (((decide (sPair.size ≤ 9223372036854775807) && fldC Smp.smpL 1 (appl cPm [a,b,c,d])) && true) && (((fldA Smp.smpL sPair 1 (appl cPm [a,b,c,d])).2 == true) && (((decide (sPair.size ≤ 9223372036854775807) && fldC Smp.smpL 1 (appl cPm [a,b,c])) && true) && (((fldA Smp.smpL sPair 1 (appl cPm [a,b,c])).2 == false) && (((decide (sPair.size ≤ 9223372036854775807) && fldC Smp.smpL 1 (appl (appl cPm [a,b,c,d]) [d])) && true) && (((fldA Smp.smpL sPair 1 (appl (appl cPm [a,b,c,d]) [d])).2 == false) && (((decide (sList.size ≤ 9223372036854775807) && fldC Smp.smpL 1 (appl cPm [a,b,c,d])) && true) && (((fldA Smp.smpL sList 1 (appl cPm [a,b,c,d])).2 == false) && ((same (fldA Smp.smpL sPair 1 (appl cPm [a,b,c,d])).1 d == true) && true)))))))))))) rfl (by kernel_rfl) (by rw [h1,h2,c4,c3,c5,z1,z2,y3,y5,yl,k1,k2]; rfl) (s4.par rfl rfl)
     ·have y4 : fldA Smp.smpL sPair n (appl cPm [a,b,c,d]) = (zeroT,false) := by
       rw [f4,if_neg (by simp)]
       by_cases hn2 : n < 0
       ·rw [if_pos (decide_eq_true hn2)]
       ·rw [if_neg (by simpa using hn2),if_pos (decide_eq_true (by omega))]
      have k1 : (fldA Smp.smpL sPair n (appl cPm [a,b,c,d])).2 = false := by rw [y4]
      have k2 : same (fldA Smp.smpL sPair n (appl cPm [a,b,c,d])).1 zeroT = true := by rw [y4]; exact same_iff.2 rfl
      have m1 : (n == 0) = false := by simpa using hn
      have m2 : (n == 1) = false := by simpa using hn1
      exact tail_ok (p := rfP [(79,false),(82,true),(92,false),(104,false),(114,false),(121,false),(130,false),(141,false),(156,true)]) (hs _) hm (rs := [.tmp 10]) (r := .val false [.dat (.bool true)]) (need := ((decide (S > 1000) == false) && (((appl cPm [a,b,c,d]).may == true) && (((decide (sPair.size ≤ 9223372036854775807) && fldC Smp.smpL n (appl cPm [a,b,c,d])) && true) && (((fldA Smp.smpL sPair n (appl cPm [a,b,c,d])).2 == false) && (((decide (sPair.size ≤ 9223372036854775807) && fldC Smp.smpL n (appl cPm [a,b,c])) && true) && (((fldA Smp.smpL sPair n (appl cPm [a,b,c])).2 == false) && (((decide (sPair.size ≤ 9223372036854775807) && fldC Smp.smpL n (appl (appl cPm [a,b,c,d]) [d])) && true) && (((fldA Smp.smpL sPair n (appl (appl cPm [a,b,c,d]) [d])).2 == false) && (((decide (sList.size ≤ 9223372036854775807) && fldC Smp.smpL n (appl cPm [a,b,c,d])) && true) && (((fldA Smp.smpL sList n (appl cPm [a,b,c,d])).2 == false) && (((n == 0) == false) && (((n == 1) == false) && ((same (fldA Smp.smpL sPair n (appl cPm [a,b,c,d])).1 zeroT == true) && true)))))))))))))) rfl (by kernel_rfl) (by rw [h1,h2,c4,c3,c5,z1,z2,y3,y5,yl,k1,k2,m1,m2]; rfl) (s4.par rfl rfl)
  ·exact tail_ok (p := rfP [(79,true)]) (hs _) hm (rs := [.tmp 10]) (r := .val false [.dat (.bool true)]) (need := ((decide (S > 1000) == true) && true)) rfl (by kernel_rfl) (by rw [h1]; rfl) (s4.par rfl rfl)
theorem law_rules_fields (t0 : Tm) (e0 : Hd) (t1 : Tm) (e1 : Hd) (t2 : Tm) (e2 : Hd) (t3 : Tm) (e3 : Hd) (z4 : Int) (W : World) (i0 : t0.In W.heap.size W e0) (i1 : t1.In W.heap.size W e1) (i2 : t2.In W.heap.size W e2) (i3 : t3.In W.heap.size W e3) (z40 : -9223372036854775808 ≤ z4) :
 Calls Tryz.prog 5 #[t0.val e0,t1.val e1,t2.val e2,t3.val e3,.int .i64 z4] W fun e w' => e = .returned (.bool true) ∧ Below W.heap.size W w' := by
 refine (RulesFields_made (fun _ => False) t0 t1 t2 t3 z4 [t0.val e0,t1.val e1,t2.val e2,t3.val e3,.int .i64 z4] W (fun _ a => a.elim) ⟨_,_,rfl,Typ.vok_tm (firm_none i0),_,_,rfl,Typ.vok_tm (firm_none i1),_,_,rfl,Typ.vok_tm (firm_none i2),_,_,rfl,Typ.vok_tm (firm_none i3),_,_,rfl,⟨[_],Typ.ok_dat rfl rfl,Or.inr ⟨rfl,rfl⟩⟩,rfl⟩ z40).mono ?_
 rintro e w' ⟨v,rfl,b,h⟩
 cases Typ.arg_dat h
 exact ⟨rfl,b⟩
end Go.Proofs.YthkiedoijckjiaaGreat
