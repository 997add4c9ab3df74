/-
 RulesLists' call.
-/
import Derived.Lib.Hide
import Derived.Test.YthkiedoijckjiaaGreatQB36
import Derived.Test.YthkiedoijckjiaaGreatQRulesNilLaw
open Go.Lib (hid)
set_option maxRecDepth 100000
set_option maxHeartbeats 32000000
namespace Go.Proofs.YthkiedoijckjiaaGreat
open Go.RowKit Go.Shelf Go.Maps Lvl Trm Env
namespace Typ
noncomputable def rlT (a c z s x : Tm) (q : Int) (bh : Bool) (S j : Int) : Tbl Sl := [(0,.val false [.dat (.int .u8 q)]),(6,.val false [.dat (.bool bh)]),(8,.var 25 [.tm a]),(9,.var 25 [.tm c]),(10,.var 25 [.tm z]),(11,.var 25 [.tm s]),(12,.var 25 [.tm x]),(15,.val false [.env Smp.smpL]),(17,.val false [.tms [a,c,z,s,x]]),(18,.val false [.dat (.int .i64 S)]),(19,.val false [.dat (.int .i64 j)])]
noncomputable def rlT2 (a c z s x : Tm) (bh : Bool) (S K : Int) (g : Nat) (j : Int) : Tbl Sl := [(6,.val false [.dat (.bool bh)]),(8,.var 25 [.tm a]),(9,.var 25 [.tm c]),(10,.var 25 [.tm z]),(11,.var 25 [.tm s]),(12,.var 25 [.tm x]),(15,.val false [.env Smp.smpL]),(18,.val false [.dat (.int .i64 S)]),(20,.val false [.dat (.int .i64 K)]),(21,.mvar 25 [.tm (lst a x g)]),(22,.val false [.dat (.int .i64 j)])]
noncomputable def rlP (ov : List (Nat × Bool)) : Par := ⟨sp25,226,ov,[21,23],false,[]⟩
theorem get_five {p : Tm → Prop} {a c z s x : Tm} (h : ∀ i : Nat,i < 5 → p ([a,c,z,s,x].getD i zeroT)) : p a ∧ p c ∧ p z ∧ p s ∧ p x := ⟨h 0 (by omega),h 1 (by omega),h 2 (by omega),h 3 (by omega),h 4 (by omega)⟩
end Typ
open Typ in
theorem RulesLists_made (P : Nat → Prop) (q : Int) (a c z s x : Tm) (bh : Bool) (vs : List Value) (w : World) (hP : ∀ q,P q → q < w.heap.size) (hv : VArgs P w [(false,[.dat (.int .u8 q)]),(true,[.tm a]),(true,[.tm c]),(true,[.tm z]),(true,[.tm s]),(true,[.tm x]),(false,[.dat (.bool bh)])] vs) (hq0 : 0 ≤ q) (hq1 : q ≤ 255) :
 Calls Tryz.prog 6 vs.toArray w (MadeV P w (.val false [.dat (.bool true)])) := by
 have hm : Tryz.prog.follows .mixedOrders = true := by kernel_rfl
 have hs : ∀ ov,ParOk (rlP ov) := fun _ => par_ok sp25_ok
 have hlen := hv.len
 refine calls_of_wp Tryz.func6 rfl ?_
 have st := start_ok (p := rlP []) (P := P) (w := w) hP hv (by simp [rlP])
 refine wp_seq (piece_ok (p := rlP []) (hs _) hm (T' := [(0,.val false [.dat (.int .u8 q)]),(6,.val false [.dat (.bool bh)]),(8,.var 25 [.tm a]),(9,.var 25 [.tm c]),(10,.var 25 [.tm z]),(11,.var 25 [.tm s]),(12,.var 25 [.tm x])]) (e := .normal) (need := true) (by kernel_rfl) rfl st fun a1 w1 s1 => ?_)
 refine wp_seq (piece_ok (p := rlP []) (hs _) hm (T' := [(0,.val false [.dat (.int .u8 q)]),(6,.val false [.dat (.bool bh)]),(8,.var 25 [.tm a]),(9,.var 25 [.tm c]),(10,.var 25 [.tm z]),(11,.var 25 [.tm s]),(12,.var 25 [.tm x]),(15,.val false [.env Smp.smpL]),(16,.val false [.dat (.bool true)])]) (e := .normal) (need := true) (by kernel_rfl) rfl s1 fun a2 w2 s2 => ?_)
 refine wp_seq (piece_ok (p := rlP []) (hs _) hm (T' := [(0,.val false [.dat (.int .u8 q)]),(6,.val false [.dat (.bool bh)]),(8,.var 25 [.tm a]),(9,.var 25 [.tm c]),(10,.var 25 [.tm z]),(11,.var 25 [.tm s]),(12,.var 25 [.tm x]),(15,.val false [.env Smp.smpL])]) (e := .normal) (need := true) (by kernel_rfl) rfl s2 fun a3 w3 s3 => ?_)
 refine wp_seq (piece_ok (p := rlP []) (hs _) hm (T' := [(0,.val false [.dat (.int .u8 q)]),(6,.val false [.dat (.bool bh)]),(8,.var 25 [.tm a]),(9,.var 25 [.tm c]),(10,.var 25 [.tm z]),(11,.var 25 [.tm s]),(12,.var 25 [.tm x]),(15,.val false [.env Smp.smpL]),(17,.val false [.tms [a,c,z,s,x]])]) (e := .normal) (need := true) (by kernel_rfl) rfl s3 fun a5 w5 s5 => ?_)
 refine wp_seq (piece_ok (p := rlP []) (hs _) hm (T' := [(0,.val false [.dat (.int .u8 q)]),(6,.val false [.dat (.bool bh)]),(8,.var 25 [.tm a]),(9,.var 25 [.tm c]),(10,.var 25 [.tm z]),(11,.var 25 [.tm s]),(12,.var 25 [.tm x]),(15,.val false [.env Smp.smpL]),(17,.val false [.tms [a,c,z,s,x]]),(18,.val false [.dat (.int .i64 0)])]) (e := .normal) (need := true) (by kernel_rfl) rfl s5 fun a6 w6 s6 => ?_)
 refine wp_seq ?_
 refine wp_seq (piece_ok (p := rlP []) (hs _) hm (T' := rlT a c z s x q bh 0 0) (e := .normal) (need := true) (by kernel_rfl) rfl s6 fun a7 w7 s7 => ?_)
 refine wp_block ?_
 refine Typ.wp_loop_ghost (γ := Nat × Int) (fun g a' w' => St P w (rlP []) (rlT a c z s x q bh g.2 g.1) a' w' ∧ g.1 ≤ 5 ∧ (g.1 : Int) ≤ g.2 ∧ g.2 ≤ 200 * g.1 ∧ ∀ i : Nat,i < g.1 → ([a,c,z,s,x].getD i zeroT).may = true ∧ ([a,c,z,s,x].getD i zeroT).size ≤ 200) (fun g => 5 - g.1) (g0 := (0,0)) ⟨s7,by decide,by decide,by decide,fun i hi => absurd hi (Nat.not_lt_zero _)⟩ ?_
 rintro ⟨g,S⟩ a' w' ⟨s8,hg,hS1,hS2,hall⟩
 dsimp only at s8 hg hS1 hS2 hall
 by_cases hlt : g < 5
 ·have hw : IntKind.i64.wrap ((g : Int) + 1) = ((g + 1 : Nat) : Int) := by rw [IntWalk.i64_in _ (by omega)]; simp
  have l1 : decide ((g : Int) < 5) = true := decide_eq_true (by omega)
  have l2 : decide ((0 : Int) ≤ (g : Int)) = true := decide_eq_true (by omega)
  have l3 : decide (g < 5) = true := decide_eq_true hlt
  cases h1 : ([a,c,z,s,x].getD g zeroT).deep
  ·cases h2 : ([a,c,z,s,x].getD g zeroT).may
   ·refine piece_ok (p := rlP [(48,true),(55,false),(61,false)]) (hs _) hm (T' := [(14,.val false [.dat (.bool true)])]) (e := .ret) (need := ((decide ((g : Int) < 5) == true) && (((decide ((0 : Int) ≤ (g : Int)) && decide (g < 5)) && true) && ((([a,c,z,s,x].getD g zeroT).deep == false) && (((decide ((0 : Int) ≤ (g : Int)) && decide (g < 5)) && true) && ((([a,c,z,s,x].getD g zeroT).may == false) && true)))))) (by kernel_rfl) (by rw [h1,h2,l1,l2,l3]; rfl) (s8.par rfl rfl) fun a4 w4 s4 => ?_
    exact s4.post rfl
   ·have h4 := size_ok h2
    have h5 := ([a,c,z,s,x].getD g zeroT).size_pos
    cases h3 : decide (([a,c,z,s,x].getD g zeroT).size > 200)
    ·have h6 := of_decide_eq_false h3
     have hw2 : IntKind.i64.wrap (S + ([a,c,z,s,x].getD g zeroT).size) = S + ([a,c,z,s,x].getD g zeroT).size := IntWalk.i64_in _ (by omega)
     refine piece_ok (p := rlP [(48,true),(55,false),(61,true),(70,false)]) (hs _) hm (T' := rlT a c z s x q bh (IntKind.i64.wrap (S + ([a,c,z,s,x].getD g zeroT).size)) (IntKind.i64.wrap ((g : Int) + 1))) (e := .normal) (need := ((decide ((g : Int) < 5) == true) && (((decide ((0 : Int) ≤ (g : Int)) && decide (g < 5)) && true) && ((([a,c,z,s,x].getD g zeroT).deep == false) && (((decide ((0 : Int) ≤ (g : Int)) && decide (g < 5)) && true) && ((([a,c,z,s,x].getD g zeroT).may == true) && (((decide ((0 : Int) ≤ (g : Int)) && decide (g < 5)) && true) && (((decide (([a,c,z,s,x].getD g zeroT).size ≤ 1000000000000)) && true) && ((decide (([a,c,z,s,x].getD g zeroT).size > 200) == false) && (((decide ((0 : Int) ≤ (g : Int)) && decide (g < 5)) && true) && (((decide (([a,c,z,s,x].getD g zeroT).size ≤ 1000000000000)) && true) && true))))))))))) (by kernel_rfl) (by rw [h1,h2,h3,h4,l1,l2,l3]; rfl) (s8.par rfl rfl) fun a4 w4 s4 => ?_
     rw [hw,hw2] at s4
     exact ⟨(g + 1,S + ([a,c,z,s,x].getD g zeroT).size),⟨s4.par rfl rfl,by show g + 1 ≤ 5; omega,by show ((g + 1 : Nat) : Int) ≤ S + ([a,c,z,s,x].getD g zeroT).size; omega,by show S + ([a,c,z,s,x].getD g zeroT).size ≤ 200 * ((g + 1 : Nat) : Int); omega,fun i hi => by
      rcases Nat.lt_or_eq_of_le (Nat.le_of_lt_succ hi) with h | h
      ·exact hall i h
      ·subst h; exact ⟨h2,by omega⟩⟩,by show 5 - (g + 1) < 5 - g; omega⟩
    ·refine piece_ok (p := rlP [(48,true),(55,false),(61,true),(70,true)]) (hs _) hm (T' := [(14,.val false [.dat (.bool true)])]) (e := .ret) (need := ((decide ((g : Int) < 5) == true) && (((decide ((0 : Int) ≤ (g : Int)) && decide (g < 5)) && true) && ((([a,c,z,s,x].getD g zeroT).deep == false) && (((decide ((0 : Int) ≤ (g : Int)) && decide (g < 5)) && true) && ((([a,c,z,s,x].getD g zeroT).may == true) && (((decide ((0 : Int) ≤ (g : Int)) && decide (g < 5)) && true) && (((decide (([a,c,z,s,x].getD g zeroT).size ≤ 1000000000000)) && true) && ((decide (([a,c,z,s,x].getD g zeroT).size > 200) == true) && true))))))))) (by kernel_rfl) (by rw [h1,h2,h3,h4,l1,l2,l3]; rfl) (s8.par rfl rfl) fun a4 w4 s4 => ?_
     exact s4.post rfl
  ·refine piece_ok (p := rlP [(48,true),(55,true)]) (hs _) hm (T' := [(14,.val false [.dat (.bool true)])]) (e := .ret) (need := ((decide ((g : Int) < 5) == true) && (((decide ((0 : Int) ≤ (g : Int)) && decide (g < 5)) && true) && ((([a,c,z,s,x].getD g zeroT).deep == true) && true)))) (by kernel_rfl) (by rw [h1,l1,l2,l3]; rfl) (s8.par rfl rfl) fun a4 w4 s4 => ?_
   exact s4.post rfl
 ·have l1 : decide ((g : Int) < 5) = false := decide_eq_false (by omega)
  have hg5 : g = 5 := by omega
  subst hg5
  obtain ⟨ha,hc,hz,hs2,hx0⟩ := get_five (p := fun y => y.may = true ∧ y.size ≤ 200) hall
  have hS0 : S > 0 := by omega
  have hS : decide (S > 0) = true := decide_eq_true hS0
  have hK0 : 0 ≤ ((IntKind.i64.wrap q).tmod 20) ∧ ((IntKind.i64.wrap q).tmod 20) < 20 := by
   rw [IntWalk.i64_in _ (by omega)]
   exact ⟨Int.tmod_nonneg _ hq0,Int.tmod_lt_of_pos _ (by decide)⟩
  refine piece_ok (p := rlP [(48,false)]) (hs _) hm (T' := [(0,.val false [.dat (.int .u8 q)]),(6,.val false [.dat (.bool bh)]),(8,.var 25 [.tm a]),(9,.var 25 [.tm c]),(10,.var 25 [.tm z]),(11,.var 25 [.tm s]),(12,.var 25 [.tm x]),(15,.val false [.env Smp.smpL]),(18,.val false [.dat (.int .i64 S)])]) (e := .exit 0) (need := (decide (((5 : Nat) : Int) < 5) == false) && true) (by kernel_rfl) rfl (s8.par rfl rfl) fun a4 w4 s9 => ?_
  clear s8 s7 s6 s5 s3 s2 s1 st l1 hlt hg hall hS1 hS2
  refine wp_seq (piece_ok (p := rlP []) (hs _) hm (T' := [(6,.val false [.dat (.bool bh)]),(8,.var 25 [.tm a]),(9,.var 25 [.tm c]),(10,.var 25 [.tm z]),(11,.var 25 [.tm s]),(12,.var 25 [.tm x]),(15,.val false [.env Smp.smpL]),(18,.val false [.dat (.int .i64 S)]),(20,.val false [.dat (.int .i64 ((IntKind.i64.wrap q).tmod 20))])]) (e := .normal) (need := true) (by kernel_rfl) rfl (s9.par rfl rfl) fun a1 w1 s1 => ?_)
  generalize hKz : ((IntKind.i64.wrap q).tmod 20) = Kz at s1 hK0
  refine wp_seq (piece_ok (p := rlP []) (hs _) hm (T' := [(6,.val false [.dat (.bool bh)]),(8,.var 25 [.tm a]),(9,.var 25 [.tm c]),(10,.var 25 [.tm z]),(11,.var 25 [.tm s]),(12,.var 25 [.tm x]),(15,.val false [.env Smp.smpL]),(18,.val false [.dat (.int .i64 S)]),(20,.val false [.dat (.int .i64 Kz)]),(21,.mvar 25 [.tm (lst a x 0)])]) (e := .normal) (need := true) (by kernel_rfl) rfl (s1.par rfl rfl) fun a2 w2 s2 => ?_)
  refine wp_seq ?_
  refine wp_seq (piece_ok (p := rlP []) (hs _) hm (T' := rlT2 a c z s x bh S Kz 0 0) (e := .normal) (need := true) (by kernel_rfl) rfl (s2.par rfl rfl) fun a3 w3 s3 => ?_)
  refine wp_block ?_
  refine Typ.wp_loop_ghost (fun (g : Nat) a' w' => St P w (rlP []) (rlT2 a c z s x bh S Kz g g) a' w' ∧ (g : Int) ≤ Kz) (fun g => Kz.toNat - g) (g0 := 0) ⟨s3,by omega⟩ ?_
  rintro g a' w' ⟨s8,hgK⟩
  by_cases hlt : (g : Int) < Kz
  ·have hw : IntKind.i64.wrap ((g : Int) + 1) = ((g + 1 : Nat) : Int) := by rw [IntWalk.i64_in _ (by omega)]; simp
   have l1 : decide ((g : Int) < Kz) = true := decide_eq_true hlt
   refine piece_ok (p := rlP [(89,true)]) (hs _) hm (T' := rlT2 a c z s x bh S Kz (g + 1) (IntKind.i64.wrap ((g : Int) + 1))) (e := .normal) (need := (decide ((g : Int) < Kz) == true) && true) (by kernel_rfl) (by rw [l1]; rfl) (s8.par rfl rfl) fun a4 w4 s4 => ?_
   rw [hw] at s4
   exact ⟨g + 1,⟨s4.par rfl rfl,by omega⟩,by omega⟩
  ·have l1 : decide ((g : Int) < Kz) = false := decide_eq_false hlt
   have hgz : Kz = (g : Int) := by omega
   refine piece_ok (p := rlP [(89,false)]) (hs _) hm (T' := rlT2 a c z s x bh S Kz g g) (e := .exit 2) (need := (decide ((g : Int) < Kz) == false) && true) (by kernel_rfl) (by rw [l1]; rfl) (s8.par rfl rfl) fun a4 w4 s4 => ?_
   clear s8 s3 s2 s1 s9 l1 hlt hgK hKz
   cases g with
   | zero =>
     cases bh
     ·skip
      have hk20 : 0 ≤ 20 := by omega
      have hl := lst_ok ha hx0 (0) hk20
      have ea := ht_size a
      have ec := ht_size c
      have ez := ht_size z
      have es := ht_size s
      have ex := ht_size x
      have ht : (appl recL [a,c,z,s,(lst a x 0)]).may = true := appl_small (by decide) (by decide) (by decide) (by intro y hy; simp at hy; rcases hy with rfl | rfl | rfl | rfl | rfl; all_goals exact ⟨by first | exact ha.1 | exact hc.1 | exact hz.1 | exact hs2.1 | exact hx0.1 | exact hl.1,by omega,by omega⟩) (by simp)
      have e1 : spM (appl recL [a,c,z,s,(lst a x 0)]) = (recL,[a,c,z,s,(lst a x 0)]) := spM_of' (g := recL) (m := [a,c,z,s,(lst a x 0)]) ht (by decide) (by simp)
      have em := mjrL0 e1
      have y1 : (mjr Smp.smpL (appl recL [a,c,z,s,(lst a x 0)])).2.2 = true := by rw [em]
      have y2 : ((mjr Smp.smpL (appl recL [a,c,z,s,(lst a x 0)])).2.1 != 4) = false := by rw [em]; rfl
      obtain ⟨i1,j1⟩ := iotL_nil0 e1 (lst_zero hl.1)
      have hx : (appl lB0 [a,c,z,s]).may = true := appl_small lB0_ok.1 (of_decide_eq_true lB0_ok.2.1) (by have := of_decide_eq_true lB0_ok.2.2.1; omega) (by intro y hy; simp at hy; rcases hy with rfl | rfl | rfl | rfl; all_goals exact ⟨by first | exact ha.1 | exact hc.1 | exact hz.1 | exact hs2.1 | exact hx0.1,by omega,by omega⟩) (by simp)
      rw [apA_ok hx (may_k hx)] at i1
      rw [Bool.and_eq_true] at j1
      have j11 := j1.1
      have j12 := j1.2
      have x1 : ((iot Smp.smpL (appl recL [a,c,z,s,(lst a x 0)]) (lst a x 0)).2 != 0) = false := by rw [i1]; rfl
      have x2 : (iot Smp.smpL (appl recL [a,c,z,s,(lst a x 0)]) (lst a x 0)).1.may = true := by rw [i1]; exact hx
      have e3 : (spM (iot Smp.smpL (appl recL [a,c,z,s,(lst a x 0)]) (lst a x 0)).1) = (lB0,[a,c,z,s]) := by rw [i1]; exact spM_of' hx (by have := lB0_ok.2.2.2; simpa using this) (by simp)
      have x4 : (((spM (iot Smp.smpL (appl recL [a,c,z,s,(lst a x 0)]) (lst a x 0)).1).2.length : Int) != 4) = false := by rw [e3]; rfl
      have r0 : decide (0 < (spM (iot Smp.smpL (appl recL [a,c,z,s,(lst a x 0)]) (lst a x 0)).1).2.length) = true := by rw [e3]; rfl
      have sm0 : same ((spM (iot Smp.smpL (appl recL [a,c,z,s,(lst a x 0)]) (lst a x 0)).1).2.getD 0 zeroT) a = true := by rw [e3]; exact same_iff.2 rfl
      have r1 : decide (1 < (spM (iot Smp.smpL (appl recL [a,c,z,s,(lst a x 0)]) (lst a x 0)).1).2.length) = true := by rw [e3]; rfl
      have sm1 : same ((spM (iot Smp.smpL (appl recL [a,c,z,s,(lst a x 0)]) (lst a x 0)).1).2.getD 1 zeroT) c = true := by rw [e3]; exact same_iff.2 rfl
      have r2 : decide (2 < (spM (iot Smp.smpL (appl recL [a,c,z,s,(lst a x 0)]) (lst a x 0)).1).2.length) = true := by rw [e3]; rfl
      have sm2 : same ((spM (iot Smp.smpL (appl recL [a,c,z,s,(lst a x 0)]) (lst a x 0)).1).2.getD 2 zeroT) z = true := by rw [e3]; exact same_iff.2 rfl
      have r3 : decide (3 < (spM (iot Smp.smpL (appl recL [a,c,z,s,(lst a x 0)]) (lst a x 0)).1).2.length) = true := by rw [e3]; rfl
      have sm3 : same ((spM (iot Smp.smpL (appl recL [a,c,z,s,(lst a x 0)]) (lst a x 0)).1).2.getD 3 zeroT) s = true := by rw [e3]; exact same_iff.2 rfl
      have b1 : decide (Kz > 0) = false := decide_eq_false (by omega)
      have hKn : Kz.toNat = 0 := by omega
      have n1 : decide ((0 : Int) ≤ Kz) = true := decide_eq_true (by omega)
      have n2 : decide (Kz ≤ 1000000) = true := decide_eq_true (by omega)
      obtain ⟨i2,j2⟩ := iotL_zero0 (m := (Smp.num Kz.toNat)) e1 (by rw [hKn]; exact num_zero)
      rw [Bool.and_eq_true] at j2
      have j22 := j2.2
      have y3 : ((iot Smp.smpL (appl recL [a,c,z,s,(lst a x 0)]) (Smp.num Kz.toNat)).2 == 6) = true := by rw [i2]; rfl
      exact tail_ok (p := rlP [(118,true),(123,false),(133,false),(136,true),(145,false),(152,false),(158,true),(166,true),(174,true),(182,true),(186,false),(218,true),(221,true)]) (hs _) hm (rs := [.tmp 14]) (r := .val false [.dat (.bool true)]) (need := (((mjr Smp.smpL (appl recL [a,c,z,s,(lst a x 0)])).2.2 == true) && ((((mjr Smp.smpL (appl recL [a,c,z,s,(lst a x 0)])).2.1 != 4) == false) && (((decide ((rcr Smp.smpL (spM (appl recL [a,c,z,s,(lst a x 0)])).1 ((spM (appl recL [a,c,z,s,(lst a x 0)])).2.length : Int)).1.rules.length ≤ 1000000) && iotC Smp.smpL (appl recL [a,c,z,s,(lst a x 0)]) (lst a x 0)) && true) && ((((iot Smp.smpL (appl recL [a,c,z,s,(lst a x 0)]) (lst a x 0)).2 != 0) == false) && (((iot Smp.smpL (appl recL [a,c,z,s,(lst a x 0)]) (lst a x 0)).1.may == true) && (((iot Smp.smpL (appl recL [a,c,z,s,(lst a x 0)]) (lst a x 0)).1.may && true) && ((decide (Kz > 0) == false) && (((((spM (iot Smp.smpL (appl recL [a,c,z,s,(lst a x 0)]) (lst a x 0)).1).2.length : Int) != 4) == false) && (((decide ((0 : Int) ≤ 0) && decide (0 < (spM (iot Smp.smpL (appl recL [a,c,z,s,(lst a x 0)]) (lst a x 0)).1).2.length)) && true) && ((same ((spM (iot Smp.smpL (appl recL [a,c,z,s,(lst a x 0)]) (lst a x 0)).1).2.getD 0 zeroT) a == true) && (((decide ((0 : Int) ≤ 1) && decide (1 < (spM (iot Smp.smpL (appl recL [a,c,z,s,(lst a x 0)]) (lst a x 0)).1).2.length)) && true) && ((same ((spM (iot Smp.smpL (appl recL [a,c,z,s,(lst a x 0)]) (lst a x 0)).1).2.getD 1 zeroT) c == true) && (((decide ((0 : Int) ≤ 2) && decide (2 < (spM (iot Smp.smpL (appl recL [a,c,z,s,(lst a x 0)]) (lst a x 0)).1).2.length)) && true) && ((same ((spM (iot Smp.smpL (appl recL [a,c,z,s,(lst a x 0)]) (lst a x 0)).1).2.getD 2 zeroT) z == true) && (((decide ((0 : Int) ≤ 3) && decide (3 < (spM (iot Smp.smpL (appl recL [a,c,z,s,(lst a x 0)]) (lst a x 0)).1).2.length)) && true) && ((same ((spM (iot Smp.smpL (appl recL [a,c,z,s,(lst a x 0)]) (lst a x 0)).1).2.getD 3 zeroT) s == true) && ((decide (Kz > 0) == false) && (((decide ((0 : Int) ≤ Kz) && decide (Kz ≤ 1000000)) && true) && (((decide ((rcr Smp.smpL (spM (appl recL [a,c,z,s,(lst a x 0)])).1 ((spM (appl recL [a,c,z,s,(lst a x 0)])).2.length : Int)).1.rules.length ≤ 1000000) && iotC Smp.smpL (appl recL [a,c,z,s,(lst a x 0)]) (Smp.num Kz.toNat)) && true) && ((((iot Smp.smpL (appl recL [a,c,z,s,(lst a x 0)]) (Smp.num Kz.toNat)).2 == 6) == true) && ((decide (S > 0) == true) && true)))))))))))))))))))))) rfl (by kernel_rfl) (by rw [y1,y2,j11,j12,x1,x2,b1,x4,r0,sm0,r1,sm1,r2,sm2,r3,sm3,n1,n2,j22,y3,hS]; rfl) (s4.par rfl rfl)
     ·skip
      have hk20 : 0 ≤ 20 := by omega
      have hl := lst_ok ha hx0 (0) hk20
      have ea := ht_size a
      have ec := ht_size c
      have ez := ht_size z
      have es := ht_size s
      have ex := ht_size x
      have ht : (appl recL [a,c,z,s,(lst a x 0),x]).may = true := appl_small (by decide) (by decide) (by decide) (by intro y hy; simp at hy; rcases hy with rfl | rfl | rfl | rfl | rfl | rfl; all_goals exact ⟨by first | exact ha.1 | exact hc.1 | exact hz.1 | exact hs2.1 | exact hx0.1 | exact hl.1,by omega,by omega⟩) (by simp)
      have e1 : spM (appl (appl recL [a,c,z,s,(lst a x 0)]) [x]) = (recL,[a,c,z,s,(lst a x 0),x]) := spM_of' (g := recL) (m := [a,c,z,s,(lst a x 0),x]) ht (by decide) (by simp)
      have em := mjrL1 e1
      have y1 : (mjr Smp.smpL (appl (appl recL [a,c,z,s,(lst a x 0)]) [x])).2.2 = true := by rw [em]
      have y2 : ((mjr Smp.smpL (appl (appl recL [a,c,z,s,(lst a x 0)]) [x])).2.1 != 4) = false := by rw [em]; rfl
      obtain ⟨i1,j1⟩ := iotL_nil1 e1 (lst_zero hl.1)
      have hx : (appl lB0 [a,c,z,s,x]).may = true := appl_small lB0_ok.1 (of_decide_eq_true lB0_ok.2.1) (by have := of_decide_eq_true lB0_ok.2.2.1; omega) (by intro y hy; simp at hy; rcases hy with rfl | rfl | rfl | rfl | rfl; all_goals exact ⟨by first | exact ha.1 | exact hc.1 | exact hz.1 | exact hs2.1 | exact hx0.1,by omega,by omega⟩) (by simp)
      rw [apA_ok hx (may_k hx)] at i1
      rw [Bool.and_eq_true] at j1
      have j11 := j1.1
      have j12 := j1.2
      have x1 : ((iot Smp.smpL (appl (appl recL [a,c,z,s,(lst a x 0)]) [x]) (lst a x 0)).2 != 0) = false := by rw [i1]; rfl
      have x2 : (iot Smp.smpL (appl (appl recL [a,c,z,s,(lst a x 0)]) [x]) (lst a x 0)).1.may = true := by rw [i1]; exact hx
      have e3 : (spM (iot Smp.smpL (appl (appl recL [a,c,z,s,(lst a x 0)]) [x]) (lst a x 0)).1) = (lB0,[a,c,z,s,x]) := by rw [i1]; exact spM_of' hx (by have := lB0_ok.2.2.2; simpa using this) (by simp)
      have x4 : (((spM (iot Smp.smpL (appl (appl recL [a,c,z,s,(lst a x 0)]) [x]) (lst a x 0)).1).2.length : Int) != 5) = false := by rw [e3]; rfl
      have r0 : decide (0 < (spM (iot Smp.smpL (appl (appl recL [a,c,z,s,(lst a x 0)]) [x]) (lst a x 0)).1).2.length) = true := by rw [e3]; rfl
      have sm0 : same ((spM (iot Smp.smpL (appl (appl recL [a,c,z,s,(lst a x 0)]) [x]) (lst a x 0)).1).2.getD 0 zeroT) a = true := by rw [e3]; exact same_iff.2 rfl
      have r1 : decide (1 < (spM (iot Smp.smpL (appl (appl recL [a,c,z,s,(lst a x 0)]) [x]) (lst a x 0)).1).2.length) = true := by rw [e3]; rfl
      have sm1 : same ((spM (iot Smp.smpL (appl (appl recL [a,c,z,s,(lst a x 0)]) [x]) (lst a x 0)).1).2.getD 1 zeroT) c = true := by rw [e3]; exact same_iff.2 rfl
      have r2 : decide (2 < (spM (iot Smp.smpL (appl (appl recL [a,c,z,s,(lst a x 0)]) [x]) (lst a x 0)).1).2.length) = true := by rw [e3]; rfl
      have sm2 : same ((spM (iot Smp.smpL (appl (appl recL [a,c,z,s,(lst a x 0)]) [x]) (lst a x 0)).1).2.getD 2 zeroT) z = true := by rw [e3]; exact same_iff.2 rfl
      have r3 : decide (3 < (spM (iot Smp.smpL (appl (appl recL [a,c,z,s,(lst a x 0)]) [x]) (lst a x 0)).1).2.length) = true := by rw [e3]; rfl
      have sm3 : same ((spM (iot Smp.smpL (appl (appl recL [a,c,z,s,(lst a x 0)]) [x]) (lst a x 0)).1).2.getD 3 zeroT) s = true := by rw [e3]; exact same_iff.2 rfl
      have u1 : decide ((0 : Int) ≤ (IntKind.i64.wrap (((spM (iot Smp.smpL (appl (appl recL [a,c,z,s,(lst a x 0)]) [x]) (lst a x 0)).1).2.length : Int) - 1))) = true := by rw [e3]; rfl
      have u2 : decide ((IntKind.i64.wrap (((spM (iot Smp.smpL (appl (appl recL [a,c,z,s,(lst a x 0)]) [x]) (lst a x 0)).1).2.length : Int) - 1)).toNat < (spM (iot Smp.smpL (appl (appl recL [a,c,z,s,(lst a x 0)]) [x]) (lst a x 0)).1).2.length) = true := by rw [e3]; rfl
      have u3 : same ((spM (iot Smp.smpL (appl (appl recL [a,c,z,s,(lst a x 0)]) [x]) (lst a x 0)).1).2.getD (IntKind.i64.wrap (((spM (iot Smp.smpL (appl (appl recL [a,c,z,s,(lst a x 0)]) [x]) (lst a x 0)).1).2.length : Int) - 1)).toNat zeroT) x = true := by rw [e3]; exact same_iff.2 rfl
      have b1 : decide (Kz > 0) = false := decide_eq_false (by omega)
      have hKn : Kz.toNat = 0 := by omega
      have n1 : decide ((0 : Int) ≤ Kz) = true := decide_eq_true (by omega)
      have n2 : decide (Kz ≤ 1000000) = true := decide_eq_true (by omega)
      obtain ⟨i2,j2⟩ := iotL_zero1 (m := (Smp.num Kz.toNat)) e1 (by rw [hKn]; exact num_zero)
      rw [Bool.and_eq_true] at j2
      have j22 := j2.2
      have y3 : ((iot Smp.smpL (appl (appl recL [a,c,z,s,(lst a x 0)]) [x]) (Smp.num Kz.toNat)).2 == 6) = true := by rw [i2]; rfl
      exact tail_ok (p := rlP [(118,true),(123,false),(133,false),(136,true),(145,false),(152,false),(158,true),(166,true),(174,true),(182,true),(186,false),(205,true),(218,true),(221,true)]) (hs _) hm (rs := [.tmp 14]) (r := .val false [.dat (.bool true)]) (need := (((mjr Smp.smpL (appl (appl recL [a,c,z,s,(lst a x 0)]) [x])).2.2 == true) && ((((mjr Smp.smpL (appl (appl recL [a,c,z,s,(lst a x 0)]) [x])).2.1 != 4) == false) && (((decide ((rcr Smp.smpL (spM (appl (appl recL [a,c,z,s,(lst a x 0)]) [x])).1 ((spM (appl (appl recL [a,c,z,s,(lst a x 0)]) [x])).2.length : Int)).1.rules.length ≤ 1000000) && iotC Smp.smpL (appl (appl recL [a,c,z,s,(lst a x 0)]) [x]) (lst a x 0)) && true) && ((((iot Smp.smpL (appl (appl recL [a,c,z,s,(lst a x 0)]) [x]) (lst a x 0)).2 != 0) == false) && (((iot Smp.smpL (appl (appl recL [a,c,z,s,(lst a x 0)]) [x]) (lst a x 0)).1.may == true) && (((iot Smp.smpL (appl (appl recL [a,c,z,s,(lst a x 0)]) [x]) (lst a x 0)).1.may && true) && ((decide (Kz > 0) == false) && (((((spM (iot Smp.smpL (appl (appl recL [a,c,z,s,(lst a x 0)]) [x]) (lst a x 0)).1).2.length : Int) != 5) == false) && (((decide ((0 : Int) ≤ 0) && decide (0 < (spM (iot Smp.smpL (appl (appl recL [a,c,z,s,(lst a x 0)]) [x]) (lst a x 0)).1).2.length)) && true) && ((same ((spM (iot Smp.smpL (appl (appl recL [a,c,z,s,(lst a x 0)]) [x]) (lst a x 0)).1).2.getD 0 zeroT) a == true) && (((decide ((0 : Int) ≤ 1) && decide (1 < (spM (iot Smp.smpL (appl (appl recL [a,c,z,s,(lst a x 0)]) [x]) (lst a x 0)).1).2.length)) && true) && ((same ((spM (iot Smp.smpL (appl (appl recL [a,c,z,s,(lst a x 0)]) [x]) (lst a x 0)).1).2.getD 1 zeroT) c == true) && (((decide ((0 : Int) ≤ 2) && decide (2 < (spM (iot Smp.smpL (appl (appl recL [a,c,z,s,(lst a x 0)]) [x]) (lst a x 0)).1).2.length)) && true) && ((same ((spM (iot Smp.smpL (appl (appl recL [a,c,z,s,(lst a x 0)]) [x]) (lst a x 0)).1).2.getD 2 zeroT) z == true) && (((decide ((0 : Int) ≤ 3) && decide (3 < (spM (iot Smp.smpL (appl (appl recL [a,c,z,s,(lst a x 0)]) [x]) (lst a x 0)).1).2.length)) && true) && ((same ((spM (iot Smp.smpL (appl (appl recL [a,c,z,s,(lst a x 0)]) [x]) (lst a x 0)).1).2.getD 3 zeroT) s == true) && ((decide (Kz > 0) == false) && (((decide ((0 : Int) ≤ (IntKind.i64.wrap (((spM (iot Smp.smpL (appl (appl recL [a,c,z,s,(lst a x 0)]) [x]) (lst a x 0)).1).2.length : Int) - 1))) && decide ((IntKind.i64.wrap (((spM (iot Smp.smpL (appl (appl recL [a,c,z,s,(lst a x 0)]) [x]) (lst a x 0)).1).2.length : Int) - 1)).toNat < (spM (iot Smp.smpL (appl (appl recL [a,c,z,s,(lst a x 0)]) [x]) (lst a x 0)).1).2.length)) && true) && ((same ((spM (iot Smp.smpL (appl (appl recL [a,c,z,s,(lst a x 0)]) [x]) (lst a x 0)).1).2.getD (IntKind.i64.wrap (((spM (iot Smp.smpL (appl (appl recL [a,c,z,s,(lst a x 0)]) [x]) (lst a x 0)).1).2.length : Int) - 1)).toNat zeroT) x == true) && (((decide ((0 : Int) ≤ Kz) && decide (Kz ≤ 1000000)) && true) && (((decide ((rcr Smp.smpL (spM (appl (appl recL [a,c,z,s,(lst a x 0)]) [x])).1 ((spM (appl (appl recL [a,c,z,s,(lst a x 0)]) [x])).2.length : Int)).1.rules.length ≤ 1000000) && iotC Smp.smpL (appl (appl recL [a,c,z,s,(lst a x 0)]) [x]) (Smp.num Kz.toNat)) && true) && ((((iot Smp.smpL (appl (appl recL [a,c,z,s,(lst a x 0)]) [x]) (Smp.num Kz.toNat)).2 == 6) == true) && ((decide (S > 0) == true) && true)))))))))))))))))))))))) rfl (by kernel_rfl) (by rw [y1,y2,j11,j12,x1,x2,b1,x4,r0,sm0,r1,sm1,r2,sm2,r3,sm3,u1,u2,u3,n1,n2,j22,y3,hS]; rfl) (s4.par rfl rfl)
   | succ k =>
     cases bh
     ·skip
      have hk20 : k + 1 ≤ 20 := by omega
      have hl := lst_ok ha hx0 (k + 1) hk20
      have hl2 := lst_ok ha hx0 k (by omega)
      have ea := ht_size a
      have ec := ht_size c
      have ez := ht_size z
      have es := ht_size s
      have ex := ht_size x
      have ht : (appl recL [a,c,z,s,(lst a x (k + 1))]).may = true := appl_small (by decide) (by decide) (by decide) (by intro y hy; simp at hy; rcases hy with rfl | rfl | rfl | rfl | rfl; all_goals exact ⟨by first | exact ha.1 | exact hc.1 | exact hz.1 | exact hs2.1 | exact hx0.1 | exact hl.1,by omega,by omega⟩) (by simp)
      have e1 : spM (appl recL [a,c,z,s,(lst a x (k + 1))]) = (recL,[a,c,z,s,(lst a x (k + 1))]) := spM_of' (g := recL) (m := [a,c,z,s,(lst a x (k + 1))]) ht (by decide) (by simp)
      have em := mjrL0 e1
      have y1 : (mjr Smp.smpL (appl recL [a,c,z,s,(lst a x (k + 1))])).2.2 = true := by rw [em]
      have y2 : ((mjr Smp.smpL (appl recL [a,c,z,s,(lst a x (k + 1))])).2.1 != 4) = false := by rw [em]; rfl
      obtain ⟨i1,j1⟩ := iotL_cons0 e1 (lst_succ hl.1)
      have hx : (appl lB1 [a,c,z,s,x,lst a x k]).may = true := appl_small lB1_ok.1 (of_decide_eq_true lB1_ok.2.1) (by have := of_decide_eq_true lB1_ok.2.2.1; omega) (by intro y hy; simp at hy; rcases hy with rfl | rfl | rfl | rfl | rfl | rfl; all_goals exact ⟨by first | exact ha.1 | exact hc.1 | exact hz.1 | exact hs2.1 | exact hx0.1 | exact hl2.1,by omega,by omega⟩) (by simp)
      rw [apA_ok hx (may_k hx)] at i1
      rw [Bool.and_eq_true] at j1
      have j11 := j1.1
      have j12 := j1.2
      have x1 : ((iot Smp.smpL (appl recL [a,c,z,s,(lst a x (k + 1))]) (lst a x (k + 1))).2 != 0) = false := by rw [i1]; rfl
      have x2 : (iot Smp.smpL (appl recL [a,c,z,s,(lst a x (k + 1))]) (lst a x (k + 1))).1.may = true := by rw [i1]; exact hx
      have e3 : (spM (iot Smp.smpL (appl recL [a,c,z,s,(lst a x (k + 1))]) (lst a x (k + 1))).1) = (lB1,[a,c,z,s,x,lst a x k]) := by rw [i1]; exact spM_of' hx (by have := lB1_ok.2.2.2; simpa using this) (by simp)
      have x4 : (((spM (iot Smp.smpL (appl recL [a,c,z,s,(lst a x (k + 1))]) (lst a x (k + 1))).1).2.length : Int) != 6) = false := by rw [e3]; rfl
      have r0 : decide (0 < (spM (iot Smp.smpL (appl recL [a,c,z,s,(lst a x (k + 1))]) (lst a x (k + 1))).1).2.length) = true := by rw [e3]; rfl
      have sm0 : same ((spM (iot Smp.smpL (appl recL [a,c,z,s,(lst a x (k + 1))]) (lst a x (k + 1))).1).2.getD 0 zeroT) a = true := by rw [e3]; exact same_iff.2 rfl
      have r1 : decide (1 < (spM (iot Smp.smpL (appl recL [a,c,z,s,(lst a x (k + 1))]) (lst a x (k + 1))).1).2.length) = true := by rw [e3]; rfl
      have sm1 : same ((spM (iot Smp.smpL (appl recL [a,c,z,s,(lst a x (k + 1))]) (lst a x (k + 1))).1).2.getD 1 zeroT) c = true := by rw [e3]; exact same_iff.2 rfl
      have r2 : decide (2 < (spM (iot Smp.smpL (appl recL [a,c,z,s,(lst a x (k + 1))]) (lst a x (k + 1))).1).2.length) = true := by rw [e3]; rfl
      have sm2 : same ((spM (iot Smp.smpL (appl recL [a,c,z,s,(lst a x (k + 1))]) (lst a x (k + 1))).1).2.getD 2 zeroT) z = true := by rw [e3]; exact same_iff.2 rfl
      have r3 : decide (3 < (spM (iot Smp.smpL (appl recL [a,c,z,s,(lst a x (k + 1))]) (lst a x (k + 1))).1).2.length) = true := by rw [e3]; rfl
      have sm3 : same ((spM (iot Smp.smpL (appl recL [a,c,z,s,(lst a x (k + 1))]) (lst a x (k + 1))).1).2.getD 3 zeroT) s = true := by rw [e3]; exact same_iff.2 rfl
      have r4 : decide (4 < (spM (iot Smp.smpL (appl recL [a,c,z,s,(lst a x (k + 1))]) (lst a x (k + 1))).1).2.length) = true := by rw [e3]; rfl
      have sm4 : same ((spM (iot Smp.smpL (appl recL [a,c,z,s,(lst a x (k + 1))]) (lst a x (k + 1))).1).2.getD 4 zeroT) x = true := by rw [e3]; exact same_iff.2 rfl
      have b1 : decide (Kz > 0) = true := decide_eq_true (by omega)
      have hKn : Kz.toNat = k + 1 := by omega
      have n1 : decide ((0 : Int) ≤ Kz) = true := decide_eq_true (by omega)
      have n2 : decide (Kz ≤ 1000000) = true := decide_eq_true (by omega)
      obtain ⟨i2,j2⟩ := iotL_succ0 (m := (Smp.num Kz.toNat)) (N := Smp.num k) e1 (by rw [hKn]; exact num_succ (by omega))
      rw [Bool.and_eq_true] at j2
      have j22 := j2.2
      have y3 : ((iot Smp.smpL (appl recL [a,c,z,s,(lst a x (k + 1))]) (Smp.num Kz.toNat)).2 == 6) = true := by rw [i2]; rfl
      exact tail_ok (p := rlP [(118,true),(123,false),(133,false),(136,true),(145,true),(152,false),(158,true),(166,true),(174,true),(182,true),(186,true),(192,true),(218,true),(221,true)]) (hs _) hm (rs := [.tmp 14]) (r := .val false [.dat (.bool true)]) (need := (((mjr Smp.smpL (appl recL [a,c,z,s,(lst a x (k + 1))])).2.2 == true) && ((((mjr Smp.smpL (appl recL [a,c,z,s,(lst a x (k + 1))])).2.1 != 4) == false) && (((decide ((rcr Smp.smpL (spM (appl recL [a,c,z,s,(lst a x (k + 1))])).1 ((spM (appl recL [a,c,z,s,(lst a x (k + 1))])).2.length : Int)).1.rules.length ≤ 1000000) && iotC Smp.smpL (appl recL [a,c,z,s,(lst a x (k + 1))]) (lst a x (k + 1))) && true) && ((((iot Smp.smpL (appl recL [a,c,z,s,(lst a x (k + 1))]) (lst a x (k + 1))).2 != 0) == false) && (((iot Smp.smpL (appl recL [a,c,z,s,(lst a x (k + 1))]) (lst a x (k + 1))).1.may == true) && (((iot Smp.smpL (appl recL [a,c,z,s,(lst a x (k + 1))]) (lst a x (k + 1))).1.may && true) && ((decide (Kz > 0) == true) && (((((spM (iot Smp.smpL (appl recL [a,c,z,s,(lst a x (k + 1))]) (lst a x (k + 1))).1).2.length : Int) != 6) == false) && (((decide ((0 : Int) ≤ 0) && decide (0 < (spM (iot Smp.smpL (appl recL [a,c,z,s,(lst a x (k + 1))]) (lst a x (k + 1))).1).2.length)) && true) && ((same ((spM (iot Smp.smpL (appl recL [a,c,z,s,(lst a x (k + 1))]) (lst a x (k + 1))).1).2.getD 0 zeroT) a == true) && (((decide ((0 : Int) ≤ 1) && decide (1 < (spM (iot Smp.smpL (appl recL [a,c,z,s,(lst a x (k + 1))]) (lst a x (k + 1))).1).2.length)) && true) && ((same ((spM (iot Smp.smpL (appl recL [a,c,z,s,(lst a x (k + 1))]) (lst a x (k + 1))).1).2.getD 1 zeroT) c == true) && (((decide ((0 : Int) ≤ 2) && decide (2 < (spM (iot Smp.smpL (appl recL [a,c,z,s,(lst a x (k + 1))]) (lst a x (k + 1))).1).2.length)) && true) && ((same ((spM (iot Smp.smpL (appl recL [a,c,z,s,(lst a x (k + 1))]) (lst a x (k + 1))).1).2.getD 2 zeroT) z == true) && (((decide ((0 : Int) ≤ 3) && decide (3 < (spM (iot Smp.smpL (appl recL [a,c,z,s,(lst a x (k + 1))]) (lst a x (k + 1))).1).2.length)) && true) && ((same ((spM (iot Smp.smpL (appl recL [a,c,z,s,(lst a x (k + 1))]) (lst a x (k + 1))).1).2.getD 3 zeroT) s == true) && ((decide (Kz > 0) == true) && (((decide ((0 : Int) ≤ 4) && decide (4 < (spM (iot Smp.smpL (appl recL [a,c,z,s,(lst a x (k + 1))]) (lst a x (k + 1))).1).2.length)) && true) && ((same ((spM (iot Smp.smpL (appl recL [a,c,z,s,(lst a x (k + 1))]) (lst a x (k + 1))).1).2.getD 4 zeroT) x == true) && (((decide ((0 : Int) ≤ Kz) && decide (Kz ≤ 1000000)) && true) && (((decide ((rcr Smp.smpL (spM (appl recL [a,c,z,s,(lst a x (k + 1))])).1 ((spM (appl recL [a,c,z,s,(lst a x (k + 1))])).2.length : Int)).1.rules.length ≤ 1000000) && iotC Smp.smpL (appl recL [a,c,z,s,(lst a x (k + 1))]) (Smp.num Kz.toNat)) && true) && ((((iot Smp.smpL (appl recL [a,c,z,s,(lst a x (k + 1))]) (Smp.num Kz.toNat)).2 == 6) == true) && ((decide (S > 0) == true) && true)))))))))))))))))))))))) rfl (by kernel_rfl) (by rw [y1,y2,j11,j12,x1,x2,b1,x4,r0,sm0,r1,sm1,r2,sm2,r3,sm3,r4,sm4,n1,n2,j22,y3,hS]; rfl) (s4.par rfl rfl)
     ·skip
      have hk20 : k + 1 ≤ 20 := by omega
      have hl := lst_ok ha hx0 (k + 1) hk20
      have hl2 := lst_ok ha hx0 k (by omega)
      have ea := ht_size a
      have ec := ht_size c
      have ez := ht_size z
      have es := ht_size s
      have ex := ht_size x
      have ht : (appl recL [a,c,z,s,(lst a x (k + 1)),x]).may = true := appl_small (by decide) (by decide) (by decide) (by intro y hy; simp at hy; rcases hy with rfl | rfl | rfl | rfl | rfl | rfl; all_goals exact ⟨by first | exact ha.1 | exact hc.1 | exact hz.1 | exact hs2.1 | exact hx0.1 | exact hl.1,by omega,by omega⟩) (by simp)
      have e1 : spM (appl (appl recL [a,c,z,s,(lst a x (k + 1))]) [x]) = (recL,[a,c,z,s,(lst a x (k + 1)),x]) := spM_of' (g := recL) (m := [a,c,z,s,(lst a x (k + 1)),x]) ht (by decide) (by simp)
      have em := mjrL1 e1
      have y1 : (mjr Smp.smpL (appl (appl recL [a,c,z,s,(lst a x (k + 1))]) [x])).2.2 = true := by rw [em]
      have y2 : ((mjr Smp.smpL (appl (appl recL [a,c,z,s,(lst a x (k + 1))]) [x])).2.1 != 4) = false := by rw [em]; rfl
      obtain ⟨i1,j1⟩ := iotL_cons1 e1 (lst_succ hl.1)
      have hx : (appl lB1 [a,c,z,s,x,lst a x k,x]).may = true := appl_small lB1_ok.1 (of_decide_eq_true lB1_ok.2.1) (by have := of_decide_eq_true lB1_ok.2.2.1; omega) (by intro y hy; simp at hy; rcases hy with rfl | rfl | rfl | rfl | rfl | rfl | rfl; all_goals exact ⟨by first | exact ha.1 | exact hc.1 | exact hz.1 | exact hs2.1 | exact hx0.1 | exact hl2.1,by omega,by omega⟩) (by simp)
      rw [apA_ok hx (may_k hx)] at i1
      rw [Bool.and_eq_true] at j1
      have j11 := j1.1
      have j12 := j1.2
      have x1 : ((iot Smp.smpL (appl (appl recL [a,c,z,s,(lst a x (k + 1))]) [x]) (lst a x (k + 1))).2 != 0) = false := by rw [i1]; rfl
      have x2 : (iot Smp.smpL (appl (appl recL [a,c,z,s,(lst a x (k + 1))]) [x]) (lst a x (k + 1))).1.may = true := by rw [i1]; exact hx
      have e3 : (spM (iot Smp.smpL (appl (appl recL [a,c,z,s,(lst a x (k + 1))]) [x]) (lst a x (k + 1))).1) = (lB1,[a,c,z,s,x,lst a x k,x]) := by rw [i1]; exact spM_of' hx (by have := lB1_ok.2.2.2; simpa using this) (by simp)
      have x4 : (((spM (iot Smp.smpL (appl (appl recL [a,c,z,s,(lst a x (k + 1))]) [x]) (lst a x (k + 1))).1).2.length : Int) != 7) = false := by rw [e3]; rfl
      have r0 : decide (0 < (spM (iot Smp.smpL (appl (appl recL [a,c,z,s,(lst a x (k + 1))]) [x]) (lst a x (k + 1))).1).2.length) = true := by rw [e3]; rfl
      have sm0 : same ((spM (iot Smp.smpL (appl (appl recL [a,c,z,s,(lst a x (k + 1))]) [x]) (lst a x (k + 1))).1).2.getD 0 zeroT) a = true := by rw [e3]; exact same_iff.2 rfl
      have r1 : decide (1 < (spM (iot Smp.smpL (appl (appl recL [a,c,z,s,(lst a x (k + 1))]) [x]) (lst a x (k + 1))).1).2.length) = true := by rw [e3]; rfl
      have sm1 : same ((spM (iot Smp.smpL (appl (appl recL [a,c,z,s,(lst a x (k + 1))]) [x]) (lst a x (k + 1))).1).2.getD 1 zeroT) c = true := by rw [e3]; exact same_iff.2 rfl
      have r2 : decide (2 < (spM (iot Smp.smpL (appl (appl recL [a,c,z,s,(lst a x (k + 1))]) [x]) (lst a x (k + 1))).1).2.length) = true := by rw [e3]; rfl
      have sm2 : same ((spM (iot Smp.smpL (appl (appl recL [a,c,z,s,(lst a x (k + 1))]) [x]) (lst a x (k + 1))).1).2.getD 2 zeroT) z = true := by rw [e3]; exact same_iff.2 rfl
      have r3 : decide (3 < (spM (iot Smp.smpL (appl (appl recL [a,c,z,s,(lst a x (k + 1))]) [x]) (lst a x (k + 1))).1).2.length) = true := by rw [e3]; rfl
      have sm3 : same ((spM (iot Smp.smpL (appl (appl recL [a,c,z,s,(lst a x (k + 1))]) [x]) (lst a x (k + 1))).1).2.getD 3 zeroT) s = true := by rw [e3]; exact same_iff.2 rfl
      have r4 : decide (4 < (spM (iot Smp.smpL (appl (appl recL [a,c,z,s,(lst a x (k + 1))]) [x]) (lst a x (k + 1))).1).2.length) = true := by rw [e3]; rfl
      have sm4 : same ((spM (iot Smp.smpL (appl (appl recL [a,c,z,s,(lst a x (k + 1))]) [x]) (lst a x (k + 1))).1).2.getD 4 zeroT) x = true := by rw [e3]; exact same_iff.2 rfl
      have u1 : decide ((0 : Int) ≤ (IntKind.i64.wrap (((spM (iot Smp.smpL (appl (appl recL [a,c,z,s,(lst a x (k + 1))]) [x]) (lst a x (k + 1))).1).2.length : Int) - 1))) = true := by rw [e3]; rfl
      have u2 : decide ((IntKind.i64.wrap (((spM (iot Smp.smpL (appl (appl recL [a,c,z,s,(lst a x (k + 1))]) [x]) (lst a x (k + 1))).1).2.length : Int) - 1)).toNat < (spM (iot Smp.smpL (appl (appl recL [a,c,z,s,(lst a x (k + 1))]) [x]) (lst a x (k + 1))).1).2.length) = true := by rw [e3]; rfl
      have u3 : same ((spM (iot Smp.smpL (appl (appl recL [a,c,z,s,(lst a x (k + 1))]) [x]) (lst a x (k + 1))).1).2.getD (IntKind.i64.wrap (((spM (iot Smp.smpL (appl (appl recL [a,c,z,s,(lst a x (k + 1))]) [x]) (lst a x (k + 1))).1).2.length : Int) - 1)).toNat zeroT) x = true := by rw [e3]; exact same_iff.2 rfl
      have b1 : decide (Kz > 0) = true := decide_eq_true (by omega)
      have hKn : Kz.toNat = k + 1 := by omega
      have n1 : decide ((0 : Int) ≤ Kz) = true := decide_eq_true (by omega)
      have n2 : decide (Kz ≤ 1000000) = true := decide_eq_true (by omega)
      obtain ⟨i2,j2⟩ := iotL_succ1 (m := (Smp.num Kz.toNat)) (N := Smp.num k) e1 (by rw [hKn]; exact num_succ (by omega))
      rw [Bool.and_eq_true] at j2
      have j22 := j2.2
      have y3 : ((iot Smp.smpL (appl (appl recL [a,c,z,s,(lst a x (k + 1))]) [x]) (Smp.num Kz.toNat)).2 == 6) = true := by rw [i2]; rfl
      exact tail_ok (p := rlP [(118,true),(123,false),(133,false),(136,true),(145,true),(152,false),(158,true),(166,true),(174,true),(182,true),(186,true),(192,true),(205,true),(218,true),(221,true)]) (hs _) hm (rs := [.tmp 14]) (r := .val false [.dat (.bool true)]) (need := (((mjr Smp.smpL (appl (appl recL [a,c,z,s,(lst a x (k + 1))]) [x])).2.2 == true) && ((((mjr Smp.smpL (appl (appl recL [a,c,z,s,(lst a x (k + 1))]) [x])).2.1 != 4) == false) && (((decide ((rcr Smp.smpL (spM (appl (appl recL [a,c,z,s,(lst a x (k + 1))]) [x])).1 ((spM (appl (appl recL [a,c,z,s,(lst a x (k + 1))]) [x])).2.length : Int)).1.rules.length ≤ 1000000) && iotC Smp.smpL (appl (appl recL [a,c,z,s,(lst a x (k + 1))]) [x]) (lst a x (k + 1))) && true) && ((((iot Smp.smpL (appl (appl recL [a,c,z,s,(lst a x (k + 1))]) [x]) (lst a x (k + 1))).2 != 0) == false) && (((iot Smp.smpL (appl (appl recL [a,c,z,s,(lst a x (k + 1))]) [x]) (lst a x (k + 1))).1.may == true) && (((iot Smp.smpL (appl (appl recL [a,c,z,s,(lst a x (k + 1))]) [x]) (lst a x (k + 1))).1.may && true) && ((decide (Kz > 0) == true) && (((((spM (iot Smp.smpL (appl (appl recL [a,c,z,s,(lst a x (k + 1))]) [x]) (lst a x (k + 1))).1).2.length : Int) != 7) == false) && (((decide ((0 : Int) ≤ 0) && decide (0 < (spM (iot Smp.smpL (appl (appl recL [a,c,z,s,(lst a x (k + 1))]) [x]) (lst a x (k + 1))).1).2.length)) && true) && ((same ((spM (iot Smp.smpL (appl (appl recL [a,c,z,s,(lst a x (k + 1))]) [x]) (lst a x (k + 1))).1).2.getD 0 zeroT) a == true) && (((decide ((0 : Int) ≤ 1) && decide (1 < (spM (iot Smp.smpL (appl (appl recL [a,c,z,s,(lst a x (k + 1))]) [x]) (lst a x (k + 1))).1).2.length)) && true) && ((same ((spM (iot Smp.smpL (appl (appl recL [a,c,z,s,(lst a x (k + 1))]) [x]) (lst a x (k + 1))).1).2.getD 1 zeroT) c == true) && (((decide ((0 : Int) ≤ 2) && decide (2 < (spM (iot Smp.smpL (appl (appl recL [a,c,z,s,(lst a x (k + 1))]) [x]) (lst a x (k + 1))).1).2.length)) && true) && ((same ((spM (iot Smp.smpL (appl (appl recL [a,c,z,s,(lst a x (k + 1))]) [x]) (lst a x (k + 1))).1).2.getD 2 zeroT) z == true) && (((decide ((0 : Int) ≤ 3) && decide (3 < (spM (iot Smp.smpL (appl (appl recL [a,c,z,s,(lst a x (k + 1))]) [x]) (lst a x (k + 1))).1).2.length)) && true) && ((same ((spM (iot Smp.smpL (appl (appl recL [a,c,z,s,(lst a x (k + 1))]) [x]) (lst a x (k + 1))).1).2.getD 3 zeroT) s == true) && ((decide (Kz > 0) == true) && (((decide ((0 : Int) ≤ 4) && decide (4 < (spM (iot Smp.smpL (appl (appl recL [a,c,z,s,(lst a x (k + 1))]) [x]) (lst a x (k + 1))).1).2.length)) && true) && ((same ((spM (iot Smp.smpL (appl (appl recL [a,c,z,s,(lst a x (k + 1))]) [x]) (lst a x (k + 1))).1).2.getD 4 zeroT) x == true) && (((decide ((0 : Int) ≤ (IntKind.i64.wrap (((spM (iot Smp.smpL (appl (appl recL [a,c,z,s,(lst a x (k + 1))]) [x]) (lst a x (k + 1))).1).2.length : Int) - 1))) && decide ((IntKind.i64.wrap (((spM (iot Smp.smpL (appl (appl recL [a,c,z,s,(lst a x (k + 1))]) [x]) (lst a x (k + 1))).1).2.length : Int) - 1)).toNat < (spM (iot Smp.smpL (appl (appl recL [a,c,z,s,(lst a x (k + 1))]) [x]) (lst a x (k + 1))).1).2.length)) && true) && ((same ((spM (iot Smp.smpL (appl (appl recL [a,c,z,s,(lst a x (k + 1))]) [x]) (lst a x (k + 1))).1).2.getD (IntKind.i64.wrap (((spM (iot Smp.smpL (appl (appl recL [a,c,z,s,(lst a x (k + 1))]) [x]) (lst a x (k + 1))).1).2.length : Int) - 1)).toNat zeroT) x == true) && (((decide ((0 : Int) ≤ Kz) && decide (Kz ≤ 1000000)) && true) && (((decide ((rcr Smp.smpL (spM (appl (appl recL [a,c,z,s,(lst a x (k + 1))]) [x])).1 ((spM (appl (appl recL [a,c,z,s,(lst a x (k + 1))]) [x])).2.length : Int)).1.rules.length ≤ 1000000) && iotC Smp.smpL (appl (appl recL [a,c,z,s,(lst a x (k + 1))]) [x]) (Smp.num Kz.toNat)) && true) && ((((iot Smp.smpL (appl (appl recL [a,c,z,s,(lst a x (k + 1))]) [x]) (Smp.num Kz.toNat)).2 == 6) == true) && ((decide (S > 0) == true) && true)))))))))))))))))))))))))) rfl (by kernel_rfl) (by rw [y1,y2,j11,j12,x1,x2,b1,x4,r0,sm0,r1,sm1,r2,sm2,r3,sm3,r4,sm4,u1,u2,u3,n1,n2,j22,y3,hS]; rfl) (s4.par rfl rfl)
theorem law_rules_lists (z0 : Int) (t1 : Tm) (e1 : Hd) (t2 : Tm) (e2 : Hd) (t3 : Tm) (e3 : Hd) (t4 : Tm) (e4 : Hd) (t5 : Tm) (e5 : Hd) (b6 : Bool) (W : World) (z00 : 0 ≤ z0) (z01 : z0 ≤ 255) (i1 : t1.In W.heap.size W e1) (i2 : t2.In W.heap.size W e2) (i3 : t3.In W.heap.size W e3) (i4 : t4.In W.heap.size W e4) (i5 : t5.In W.heap.size W e5) :
 Calls Tryz.prog 6 #[.int .u8 z0,t1.val e1,t2.val e2,t3.val e3,t4.val e4,t5.val e5,.bool b6] W fun e w' => e = .returned (.bool true) ∧ Below W.heap.size W w' := by
 refine (RulesLists_made (fun _ => False) z0 t1 t2 t3 t4 t5 b6 [.int .u8 z0,t1.val e1,t2.val e2,t3.val e3,t4.val e4,t5.val e5,.bool b6] W (fun _ a => a.elim) ⟨_,_,rfl,⟨[_],Typ.ok_dat rfl rfl,Or.inr ⟨rfl,rfl⟩⟩,_,_,rfl,Typ.vok_tm (firm_none i1),_,_,rfl,Typ.vok_tm (firm_none i2),_,_,rfl,Typ.vok_tm (firm_none i3),_,_,rfl,Typ.vok_tm (firm_none i4),_,_,rfl,Typ.vok_tm (firm_none i5),_,_,rfl,⟨[_],Typ.ok_dat rfl rfl,Or.inr ⟨rfl,rfl⟩⟩,rfl⟩ z00 z01).mono ?_
 rintro e w' ⟨v,rfl,b,h⟩
 cases Typ.arg_dat h
 exact ⟨rfl,b⟩
end Go.Proofs.YthkiedoijckjiaaGreat
