/-
 level.Inst.
-/
import Derived.Lib.Hide
import Derived.Test.YtiekbhlnnmnklaaGreatQB2
import Derived.Test.YtiekbhlnnmnklaaGreatQB4
import Derived.Test.YtiekbhlnnmnklaaGreatQB6
import Derived.Laws.AppendOwnNone
open Go.Lib (hid)
set_option maxRecDepth 100000
set_option maxHeartbeats 32000000
namespace Go.Proofs.YtiekbhlnnmnklaaGreat
open Go.RowKit Go.Shelf Lvl
attribute [local go_sem] Oper.semAt_some
theorem Lvl.free_one {W : World} {B t : Nat} {v : Value} (h : W.heap[B]? = some (.cells #[v] t)) : W.frozen? ⟨B,0,none⟩ = false := by
 simp [World.frozen?,h]
theorem Lvl.put_one {W : World} {B t : Nat} {v : Value} (h : W.heap[B]? = some (.cells #[v] t)) (u : Value) : (W.setCell ⟨B,0,none⟩ u).heap[B]? = some (.cells #[u] t) := by
 simp [World.setCell,Array.getElem?_modify,h]
def Lvl.instStep (ls : List Lv) (o : Option Lv) (x : Int × Int) : Option Lv :=
 match o with
 | none => none
 | some o => if h : x.1.toNat < ls.length then some (o.join ((ls[x.1.toNat]).plus x.2)) else none
def Lvl.instAll (ls : List Lv) (o : Lv) (pre : List (Int × Int)) : Option Lv := pre.foldl (instStep ls) (some o)
theorem Lvl.instAll_snoc (ls : List Lv) (o : Lv) (pre : List (Int × Int)) (x : Int × Int) : instAll ls o (pre ++ [x]) = instStep ls (instAll ls o pre) x := by
 unfold instAll; rw [List.foldl_append]; rfl
theorem Lvl.instFold_none (ls : List Lv) (r : List (Int × Int)) : r.foldl (instStep ls) none = none := by
 induction r with
 | nil => rfl
 | cons x r ih => exact ih
theorem Lvl.instAll_prefix {ls : List Lv} {o : Lv} {pre l : List (Int × Int)} (hp : pre <+: l) (h : instAll ls o pre = none) : instAll ls o l = none := by
 obtain ⟨r,rfl⟩ := hp
 unfold instAll at *
 rw [List.foldl_append,h]
 exact instFold_none ls r
def Lvl.inst (l : Lv) (ls : List Lv) : Lv × Int :=
 if l.may = true ∧ ls.all Lv.may = true then
  match instAll ls (number l.c) l.ps with
  | some o => ans o
  | none => (zero,8)
 else (zero,1)
theorem Lvl.mem_ps_k {l : Lv} {x : Int × Int} (h : x ∈ l.ps) : ∃ k : Nat,k < 4 ∧ x = ((k : Int),l.at_ k) ∧ l.at_ k ≠ -1 := by
 rcases mem_ps h with ⟨rfl,hp⟩ | ⟨rfl,hp⟩ | ⟨rfl,hp⟩ | ⟨rfl,hp⟩
 ·exact ⟨0,by omega,rfl,hp⟩
 ·exact ⟨1,by omega,rfl,hp⟩
 ·exact ⟨2,by omega,rfl,hp⟩
 ·exact ⟨3,by omega,rfl,hp⟩
def Lvl.Lv.low (o : Lv) : Prop := -1 ≤ o.p0 ∧ -1 ≤ o.p1 ∧ -1 ≤ o.p2 ∧ -1 ≤ o.p3
theorem Lvl.Lv.low_join {a b : Lv} (h : a.low) : (a.join b).low := by
 obtain ⟨h0,h1,h2,h3⟩ := h
 unfold Lv.low Lv.join
 simp only
 omega
theorem inst_no (l : Lv) (ao : Option Addr) (cap : Nat) (ls : List Lv) (w : World) (hl : l.may = false) :
 Calls Tryz.prog 116 #[l.val,.slice ao ls.length cap] w fun e w' => e = .returned (.tuple #[zero.val,.int .i64 1]) ∧ Below w.heap.size w w' := by
 have hmay := fun w => may_any l w
 rw [hl] at hmay
 have HM := hid hmay
 have B0 := hid ((below_two w l.box (.cells #[.slice ao ls.length cap] 24)).alloc (by simp; omega) zero.box |>.alloc (by simp; omega) (.cells #[.int .i64 0] 38))
 have HZ := hid (keepA (new3 w l.box (.cells #[.slice ao ls.length cap] 24) zero.box) (.cells #[.int .i64 0] 38))
 have HE := hid (new4 w l.box (.cells #[.slice ao ls.length cap] 24) zero.box (.cells #[.int .i64 0] 38))
 clear hmay hl
 unfold Lv.val
 go_enter Tryz.func116,Tryz.ntmps116
 go_wp2_with fail
 refine (HM.out _).mono ?_
 rintro e w1 ⟨rfl,b1⟩
 have HZ1 := hid (keep b1 HZ.out)
 have HE1 := hid (keep b1 HE.out)
 have B1 := hid (B0.out.trans (b1.mono (by simp; omega)))
 obtain ⟨d0,d1,d2,d3,d4⟩ := Lv.cells HZ1.out
 obtain ⟨f0,f1,f2,f3,f4⟩ := Lv.frees HZ1.out
 have e0 := one_cell HE1.out
 have g0 := free_one HE1.out
 clear b1
 go_wp2_with fail
 have h5 := cells_other (put5_self HZ1.out zero) (.int .i64 1) (b := w.heap.size + 1 + 1 + 1) (o := 0) (by omega)
 have h6 := put_one (put5_other HE1.out zero (b := w.heap.size + 1 + 1) (by omega)) (.int .i64 1)
 have b5 := (put5_below B1.out (B := w.heap.size + 1 + 1) (by omega) zero).setCell (p := ⟨w.heap.size + 1 + 1 + 1,0,none⟩) (show w.heap.size ≤ w.heap.size + 1 + 1 + 1 by omega) (.int .i64 1)
 generalize hW : (((((w1.setCell ⟨w.heap.size + 1 + 1,0,none⟩ (.int .i64 0)).setCell ⟨w.heap.size + 1 + 1,1,none⟩ (.int .i64 0)).setCell ⟨w.heap.size + 1 + 1,2,none⟩ (.int .i64 0)).setCell ⟨w.heap.size + 1 + 1,3,none⟩ (.int .i64 0)).setCell ⟨w.heap.size + 1 + 1,4,none⟩ (.int .i64 0)).setCell ⟨w.heap.size + 1 + 1 + 1,0,none⟩ (.int .i64 1) = W4
 rw [show (put5 w1 (w.heap.size + 1 + 1) zero).setCell ⟨w.heap.size + 1 + 1 + 1,0,none⟩ (.int .i64 1) = W4 from hW] at h5 h6 b5
 obtain ⟨r0,r1,r2,r3,r4⟩ := Lv.cells h5
 have r5 := one_cell h6
 exact bodyPost_ret (v := .tuple #[.agg #[.int .i64 0,.int .i64 0,.int .i64 0,.int .i64 0,.int .i64 0],.int .i64 1]) (by simp [results,Tryz.results116,go_sem,r0,r1,r2,r3,r4,r5,zero]) rfl ⟨rfl,b5⟩
theorem inst_no2 (l : Lv) (ao : Option Addr) (cap : Nat) (ls : List Lv) (w : World) (hr : LRow w ao ls) (hn : ls.length ≤ 9000000000000000000) (hl : l.may = true) (hls : ls.all Lv.may = false) :
 Calls Tryz.prog 116 #[l.val,.slice ao ls.length cap] w fun e w' => e = .returned (.tuple #[zero.val,.int .i64 1]) ∧ Below w.heap.size w w' := by
 have hmay := fun w => may_any l w
 rw [hl] at hmay
 have hall := fun w hr => allMay_any ao cap ls w hr hn
 rw [hls] at hall
 have HM := hid hmay
 have HA := hid hall
 have HR := hid hr
 have B0 := hid ((below_two w l.box (.cells #[.slice ao ls.length cap] 24)).alloc (by simp; omega) zero.box |>.alloc (by simp; omega) (.cells #[.int .i64 0] 38))
 have HZ := hid (keepA (new3 w l.box (.cells #[.slice ao ls.length cap] 24) zero.box) (.cells #[.int .i64 0] 38))
 have HE := hid (new4 w l.box (.cells #[.slice ao ls.length cap] 24) zero.box (.cells #[.int .i64 0] 38))
 have HS := hid (keepA (keepA (new2 w l.box (.cells #[.slice ao ls.length cap] 24)) zero.box) (.cells #[.int .i64 0] 38))
 clear hmay hl hr hall hls
 unfold Lv.val
 go_enter Tryz.func116,Tryz.ntmps116
 go_wp2_with fail
 refine (HM.out _).mono ?_
 rintro e w1 ⟨rfl,b1⟩
 have HZ1 := hid (keep b1 HZ.out)
 have HE1 := hid (keep b1 HE.out)
 have HS1 := hid (keep b1 HS.out)
 have B1 := hid (B0.out.trans (b1.mono (by simp; omega)))
 have s0 := one_cell HS1.out
 clear b1
 go_wp2_with fail
 refine (HA.out _ (HR.out.below B1.out)).mono ?_
 rintro e w2 ⟨rfl,b2⟩
 have HZ2 := hid (keep b2 HZ1.out)
 have HE2 := hid (keep b2 HE1.out)
 have B2 := hid (B1.out.trans (b2.mono B1.out.size))
 obtain ⟨d0,d1,d2,d3,d4⟩ := Lv.cells HZ2.out
 obtain ⟨f0,f1,f2,f3,f4⟩ := Lv.frees HZ2.out
 have e0 := one_cell HE2.out
 have g0 := free_one HE2.out
 clear b2
 go_wp2_with fail
 have h5 := cells_other (put5_self HZ2.out zero) (.int .i64 1) (b := w.heap.size + 1 + 1 + 1) (o := 0) (by omega)
 have h6 := put_one (put5_other HE2.out zero (b := w.heap.size + 1 + 1) (by omega)) (.int .i64 1)
 have b5 := (put5_below B2.out (B := w.heap.size + 1 + 1) (by omega) zero).setCell (p := ⟨w.heap.size + 1 + 1 + 1,0,none⟩) (show w.heap.size ≤ w.heap.size + 1 + 1 + 1 by omega) (.int .i64 1)
 generalize hW : (((((w2.setCell ⟨w.heap.size + 1 + 1,0,none⟩ (.int .i64 0)).setCell ⟨w.heap.size + 1 + 1,1,none⟩ (.int .i64 0)).setCell ⟨w.heap.size + 1 + 1,2,none⟩ (.int .i64 0)).setCell ⟨w.heap.size + 1 + 1,3,none⟩ (.int .i64 0)).setCell ⟨w.heap.size + 1 + 1,4,none⟩ (.int .i64 0)).setCell ⟨w.heap.size + 1 + 1 + 1,0,none⟩ (.int .i64 1) = W4
 rw [show (put5 w2 (w.heap.size + 1 + 1) zero).setCell ⟨w.heap.size + 1 + 1 + 1,0,none⟩ (.int .i64 1) = W4 from hW] at h5 h6 b5
 obtain ⟨r0,r1,r2,r3,r4⟩ := Lv.cells h5
 have r5 := one_cell h6
 exact bodyPost_ret (v := .tuple #[.agg #[.int .i64 0,.int .i64 0,.int .i64 0,.int .i64 0,.int .i64 0],.int .i64 1]) (by simp [results,Tryz.results116,go_sem,r0,r1,r2,r3,r4,r5,zero]) rfl ⟨rfl,b5⟩
theorem Lvl.below_b {w W : World} (h : Below w.heap.size w W) (o : Obj) : Below w.heap.size w (W.alloc o) := h.alloc h.size _
theorem Lvl.at_low {l : Lv} (hw : l.within = true) {k : Nat} (hk : k < 4) (hne : l.at_ k ≠ -1) : 0 ≤ l.at_ k ∧ l.at_ k ≤ 1099511627776 := by
 simp only [Lv.within,decide_eq_true_eq] at hw
 have h : k = 0 ∨ k = 1 ∨ k = 2 ∨ k = 3 := by omega
 rcases h with rfl | rfl | rfl | rfl <;> (simp only [Lv.at_] at *; omega)
def Lvl.InstI (T Z E S : Nat) (ao : Option Addr) (ls : List Lv) (cap : Nat) (c : Int) (pre : List (Int × Int)) (W : World) : Prop :=
 ∃ o : Lv,instAll ls (number c) pre = some o ∧ o.low ∧ W.heap[T]? = some o.box ∧ W.heap[Z]? = some zero.box ∧ W.heap[E]? = some (.cells #[.int .i64 0] 38) ∧ W.heap[S]? = some (.cells #[.slice ao ls.length cap] 24)
theorem Lvl.InstI.kept {T Z E S : Nat} {ao : Option Addr} {ls : List Lv} {cap : Nat} {c : Int} {pre : List (Int × Int)} {W W' : World} {row : Option Nat} (h : InstI T Z E S ao ls cap c pre W) (hg : W.grownBy W' row) (hr : ∀ r,row = some r → ∃ o : Obj,W.heap[r]? = some o ∧ o.isCells = false) : InstI T Z E S ao ls cap c pre W' := by
 obtain ⟨o,h1,h2,h3,h4,h5,h6⟩ := h
 exact ⟨o,h1,h2,block_kept h3 hg hr,block_kept h4 hg hr,(grownBy_keeps_cells hg hr h5 rfl).trans h5,(grownBy_keeps_cells hg hr h6 rfl).trans h6⟩
theorem Lvl.keepsOthers_of {W v : World} (b : Below W.heap.size W v) : KeepsOthers W v := ⟨b.size,fun _ _ h _ => keep b h⟩
theorem Lvl.keeps_put (W : World) (B : Nat) (l : Lv) : KeepsOthers W (put5 W B l) := keeps_all W B _ _ _ _ _
theorem Lvl.inst_round {w W v1 v2 : World} {T Z E S : Nat} {ao : Option Addr} {ls : List Lv} {cap : Nat} {c : Int} {pre : List (Int × Int)} {o J : Lv}
 (hB : Below w.heap.size w W) (b1 : Below W.drew.heap.size W.drew v1) (b2 : Below v1.heap.size v1 v2) (hO : v2.heap[T]? = some o.box) (hT : w.heap.size ≤ T)
 (hZ : W.heap[Z]? = some zero.box) (hE : W.heap[E]? = some (.cells #[.int .i64 0] 38)) (hS : W.heap[S]? = some (.cells #[.slice ao ls.length cap] 24))
 (hTZ : T ≠ Z) (hTE : T ≠ E) (hTS : T ≠ S) (hst : instAll ls (number c) pre = some J) (hlow : J.low) :
 KeepsOthers W (put5 v2 T J) ∧ True ∧ (InstI T Z E S ao ls cap c pre (put5 v2 T J) ∧ Below w.heap.size w (put5 v2 T J)) := by
 have b0 : Below W.heap.size W v2 := (undrew b1).trans (b2.mono b1.size)
 refine ⟨(keepsOthers_of b0).trans (keeps_put _ _ _),trivial,⟨J,hst,hlow,put5_self hO J,put5_other (keep b0 hZ) J hTZ,put5_other (keep b0 hE) J hTE,put5_other (keep b0 hS) J hTS⟩,put5_below (hB.trans (b0.mono hB.size)) hT J⟩
theorem Lvl.inst_left {w W : World} {ls : List Lv} {c : Int} {pre : List (Int × Int)}
 (hB : Below w.heap.size w W) (hZ : W.heap[w.heap.size + 1 + 1]? = some zero.box) (hE : W.heap[w.heap.size + 1 + 1 + 1]? = some (.cells #[.int .i64 0] 38))
 (hst : instAll ls (number c) pre = none) :
 KeepsOthers W ((put5 W (w.heap.size + 1 + 1) zero).setCell ⟨w.heap.size + 1 + 1 + 1,0,none⟩ (.int .i64 8)) ∧ ((Code.ret = Code.ret ∧ instAll ls (number c) pre = none ∧
  ((put5 W (w.heap.size + 1 + 1) zero).setCell ⟨w.heap.size + 1 + 1 + 1,0,none⟩ (.int .i64 8)).heap[w.heap.size + 1 + 1]? = some zero.box ∧
  ((put5 W (w.heap.size + 1 + 1) zero).setCell ⟨w.heap.size + 1 + 1 + 1,0,none⟩ (.int .i64 8)).heap[w.heap.size + 1 + 1 + 1]? = some (.cells #[.int .i64 8] 38)) ∧
  Below w.heap.size w ((put5 W (w.heap.size + 1 + 1) zero).setCell ⟨w.heap.size + 1 + 1 + 1,0,none⟩ (.int .i64 8))) :=
 ⟨(keeps_put _ _ _).trans (KeepsOthers.setCell _ _ _),⟨rfl,hst,cells_other (put5_self hZ zero) _ (by omega),put_one (put5_other hE zero (by omega)) _⟩,
   (put5_below hB (B := w.heap.size + 1 + 1) (by omega) zero).setCell (p := ⟨w.heap.size + 1 + 1 + 1,0,none⟩) (show w.heap.size ≤ w.heap.size + 1 + 1 + 1 by omega) _⟩
theorem Lvl.inst_fin {w W : World} {D : Nat} (hB : Below w.heap.size w W) (hZ : W.heap[w.heap.size + 1 + 1]? = some zero.box) (hE : W.heap[w.heap.size + 1 + 1 + 1]? = some (.cells #[.int .i64 0] 38))
 (hK : W.heap[D]? = some (.deferred (some []))) (hD : w.heap.size ≤ D) (A : Lv) (q : Int) :
 ((put5 W (w.heap.size + 1 + 1) A).setCell ⟨w.heap.size + 1 + 1 + 1,0,none⟩ (.int .i64 q)).heap[D]? = some (.deferred (some [])) ∧
 (((put5 W (w.heap.size + 1 + 1) A).setCell ⟨w.heap.size + 1 + 1 + 1,0,none⟩ (.int .i64 q)).putObj D (.deferred none)).heap[w.heap.size + 1 + 1]? = some A.box ∧
 (((put5 W (w.heap.size + 1 + 1) A).setCell ⟨w.heap.size + 1 + 1 + 1,0,none⟩ (.int .i64 q)).putObj D (.deferred none)).heap[w.heap.size + 1 + 1 + 1]? = some (.cells #[.int .i64 q] 38) ∧
 Below w.heap.size w (((put5 W (w.heap.size + 1 + 1) A).setCell ⟨w.heap.size + 1 + 1 + 1,0,none⟩ (.int .i64 q)).putObj D (.deferred none)) := by
 have hK' := ((keeps_put W (w.heap.size + 1 + 1) A).trans (KeepsOthers.setCell _ ⟨w.heap.size + 1 + 1 + 1,0,none⟩ (.int .i64 q))).same D _ hK rfl
 have h1 := cells_other (put5_self hZ A) (.int .i64 q) (b := w.heap.size + 1 + 1 + 1) (o := 0) (by omega)
 have h2 := put_one (put5_other hE A (b := w.heap.size + 1 + 1) (by omega)) (.int .i64 q)
 have h3 := (put5_below hB (B := w.heap.size + 1 + 1) (by omega) A).setCell (p := ⟨w.heap.size + 1 + 1 + 1,0,none⟩) (show w.heap.size ≤ w.heap.size + 1 + 1 + 1 by omega) (.int .i64 q)
 generalize (put5 W (w.heap.size + 1 + 1) A).setCell ⟨w.heap.size + 1 + 1 + 1,0,none⟩ (.int .i64 q) = V at hK' h1 h2 h3
 exact ⟨hK',block_put h1 hK' rfl _,(grownBy_keeps_cells (grownBy_putObj' V D (.deferred none)) (fun r e => by cases e; exact ⟨_,hK',rfl⟩) h2 rfl).trans h2,h3.trans (belowK_b (w := w) (Nat.le_refl _) V D _ _ hD hK' rfl rfl)⟩
theorem inst_yes (l : Lv) (ao : Option Addr) (cap : Nat) (ls : List Lv) (w : World) (hr : LRow w ao ls) (hn : ls.length ≤ 9000000000000000000) (hl : l.may = true) (hls : ls.all Lv.may = true) :
 Calls Tryz.prog 116 #[l.val,.slice ao ls.length cap] w fun e w' => e = .returned (.tuple #[(inst l ls).1.val,.int .i64 (inst l ls).2]) ∧ Below w.heap.size w w' := by
 obtain ⟨X,hX⟩ : ∃ X,X = inst l ls := ⟨_,rfl⟩
 rw [← hX]
 rw [inst,if_pos ⟨hl,hls⟩] at hX
 have HX := hid hX
 have hmay := fun w => may_any l w
 rw [hl] at hmay
 have hall := fun w hr => allMay_any ao cap ls w hr hn
 rw [hls] at hall
 have HM := hid hmay
 have HA := hid hall
 have HR := hid hr
 have HY := hid hls
 have hw := may_within hl
 have HW := hid hw
 have B0 := hid ((below_two w l.box (.cells #[.slice ao ls.length cap] 24)).alloc (by simp; omega) zero.box |>.alloc (by simp; omega) (.cells #[.int .i64 0] 38))
 have HZ := hid (keepA (new3 w l.box (.cells #[.slice ao ls.length cap] 24) zero.box) (.cells #[.int .i64 0] 38))
 have HE := hid (new4 w l.box (.cells #[.slice ao ls.length cap] 24) zero.box (.cells #[.int .i64 0] 38))
 have HS := hid (keepA (keepA (new2 w l.box (.cells #[.slice ao ls.length cap] 24)) zero.box) (.cells #[.int .i64 0] 38))
 have HL := hid (keepA (keepA (new1of2 w l.box (.cells #[.slice ao ls.length cap] 24)) zero.box) (.cells #[.int .i64 0] 38))
 clear hmay hl hr hall hls hX hw
 refine (callsIn_wide (n := 3)).1 ?_
 refine callsIn_of_wp_marks Tryz.func116 rfl trivial ?_ rfl
 unfold Lv.val
 simp only [Tryz.ntmps116,List.size_toArray,List.length_cons,List.length_nil,Nat.reduceAdd,Nat.reduceSub,Array.replicate_succ,Array.replicate_zero,List.push_toArray,List.append_toArray,List.nil_append,List.cons_append]
 gi_wp2_with fail
 refine ⟨trivial,?_⟩
 refine (callsIn_wide.2 (HM.out _)).mono ?_
 rintro e w1 ⟨rfl,b1⟩
 have HZ1 := hid (keep b1 HZ.out)
 have HE1 := hid (keep b1 HE.out)
 have HS1 := hid (keep b1 HS.out)
 have HL1 := hid (keep b1 HL.out)
 have B1 := hid (B0.out.trans (b1.mono (by simp; omega)))
 have s0 := one_cell HS1.out
 clear b1 HZ HE HS HL B0
 gi_wp2_with fail
 refine ⟨trivial,?_⟩
 refine (callsIn_wide.2 (HA.out _ (HR.out.below B1.out))).mono ?_
 rintro e w2 ⟨rfl,b2⟩
 have HZ2 := hid (keep b2 HZ1.out)
 have HE2 := hid (keep b2 HE1.out)
 have HS2 := hid (keep b2 HS1.out)
 have HL2 := hid (keep b2 HL1.out)
 have B2 := hid (B1.out.trans (b2.mono B1.out.size))
 obtain ⟨d0,d1,d2,d3,d4⟩ := Lv.cells HL2.out
 clear b2 s0 HZ1 HE1 HS1 HL1 B1
 gi_wp2_with fail
 refine ⟨trivial,?_⟩
 refine (callsIn_wide.2 (number_any _ _)).mono ?_
 rintro e w3 ⟨rfl,b3⟩
 have HZ3 := hid (keep b3 HZ2.out)
 have HE3 := hid (keep b3 HE2.out)
 have HS3 := hid (keep b3 HS2.out)
 have hl3 := keep b3 HL2.out
 have B3 := hid (B2.out.trans (b3.mono B2.out.size))
 have hz := Nat.lt_of_lt_of_le (Array.getElem?_eq_some_iff.1 HE2.out).1 b3.size
 have hz0 : w.heap.size < w3.heap.size := by omega
 clear b3 d0 d1 d2 d3 d4 HZ2 HE2 HS2 HL2 B2
 obtain ⟨d0,d1,d2,d3,d4⟩ := Lv.cells hl3
 clear hl3
 dsimp only [number,Lv.val]
 gi_wp2_with (refine ⟨trivial,?_⟩; gi_at_call 165; refine (callsIn_wide.2 (params_any _ _)).mono ?_; rintro e w' ⟨rfl,rfl⟩)
 have hb0 := below_b (below_b B3.out (number l.c).box) l.box
 have hZ0 := keepA (keepA HZ3.out (number l.c).box) l.box
 have hE0 := keepA (keepA HE3.out (number l.c).box) l.box
 have hS0 := keepA (keepA HS3.out (number l.c).box) l.box
 clear d0 d1 d2 d3 d4 HZ3 HE3 HS3 B3
 refine wpIn_rangeFunc_ownF rfl (by omega) (gf := 195) (lb := #[.pointer (some ⟨w3.heap.size + 1,0,none⟩)]) rfl trivial (enters_of Tryz.func195 (by kernel_rfl) rfl)
  (params_stops Fence.wide 2 trivial rfl (by omega) (w3.heap.size + 1) l _ (new2 w3 _ _)) (fun _ _ => trivial) (fun _ _ _ _ _ _ _ _ => trivial) (Below.refl _ _) (fun _ => rfl)
  (fun pre W => InstI w3.heap.size (w.heap.size + 1 + 1) (w.heap.size + 1 + 1 + 1) (w.heap.size + 1) ao ls cap l.c (pre.map (·.1)) W ∧ Below w.heap.size w W)
  (fun c pre W => (c = .ret ∧ instAll ls (number l.c) (pre.map (·.1)) = none ∧ W.heap[w.heap.size + 1 + 1]? = some zero.box ∧ W.heap[w.heap.size + 1 + 1 + 1]? = some (.cells #[.int .i64 8] 38)) ∧ Below w.heap.size w W)
  (OwnFrom.and (Own.from (fun s A B row hs hg hr => hs.kept hg hr) _) (ownFrom_below (Nat.le_refl _) (by simp; omega)))
  (fun c => OwnFrom.and (Own.from (fun s A B row hs hg hr => ⟨hs.1,hs.2.1,block_kept hs.2.2.1 hg hr,(grownBy_keeps_cells hg hr hs.2.2.2 rfl).trans hs.2.2.2⟩) _) (ownFrom_below (Nat.le_refl _) (by simp; omega)))
  ⟨⟨number l.c,rfl,⟨by simp [number],by simp [number],by simp [number],by simp [number]⟩,?h1,hZ0,hE0,hS0⟩,hb0⟩
  (fun x => { tmps := #[.agg #[.int .i64 l.c,.int .i64 l.p0,.int .i64 l.p1,.int .i64 l.p2,.int .i64 l.p3],.slice ao ls.length cap,.pointer (some ⟨w.heap.size,0,none⟩),.pointer (some ⟨w.heap.size + 1,0,none⟩),.pointer (some ⟨w.heap.size + 1 + 1,0,none⟩),.pointer (some ⟨w.heap.size + 1 + 1 + 1,0,none⟩),.pointer (some ⟨w3.heap.size,0,none⟩),.int .i64 x.1.1,.int .i64 x.1.2,.agg #[.int .i64 l.c,.int .i64 l.p0,.int .i64 l.p1,.int .i64 l.p2,.int .i64 l.p3],.bool true,.bool false,.bool false,.slice ao ls.length cap,.bool true,.bool false,.bool false,undef,.pointer (some ⟨w.heap.size,0,none⟩),.int .i64 l.c,.agg #[.int .i64 l.c,.int .i64 (-1),.int .i64 (-1),.int .i64 (-1),.int .i64 (-1)],.agg #[.int .i64 l.c,.int .i64 l.p0,.int .i64 l.p1,.int .i64 l.p2,.int .i64 l.p3],.func (.func 195) #[] #[.pointer (some ⟨w3.heap.size + 1,0,none⟩)],.int .i64 x.1.1,.int .i64 x.1.2,undef,undef,undef,undef,undef,undef,undef,undef,undef,undef,undef,undef,undef,undef,undef,undef,undef],defers := [] }) ?assign ?body ?done ?stop
 case h1 => rw [Below.heap_alloc _ _ _ (by simp)]; exact World.alloc_heap_new w3 _
 case assign =>
  intro lo x W K hK
  gi_wp2
  exact hK
 case body =>
  have hmix : Tryz.prog.follows .mixedOrders = true := by kernel_rfl
  rintro lo pre ⟨x,hx⟩ W ⟨⟨o,ho,hlow,hO,hZ,hE,hS⟩,hB⟩ _
  obtain ⟨k,hk4,rfl,hne⟩ := mem_ps_k hx
  have HO := hid hO
  have HZ := hid hZ
  have HE := hid hE
  have HS := hid hS
  have HI := hid ho
  have HLow := hid hlow
  have HB := hid hB
  have HNE := hid hne
  have s0 := one_cell hS
  clear hO hZ hE hS ho hlow hB hne
  dsimp only
  by_cases hlt : k < ls.length
  ·have hge : (ls.length ≤ k) = False := by simp; omega
   obtain ⟨b,off,hao,c0,c1,c2,c3,c4⟩ := (HR.out.below HB.out).place k hlt
   subst hao
   obtain ⟨y,hy⟩ : ∃ y,y = ls[k] := ⟨_,rfl⟩
   rw [← hy] at c0 c1 c2 c3 c4
   have hbw : b < W.heap.size := World.block_lt_of_cell? W _ c0
   have hym : y.may = true := by
    have h := HY.out
    rw [List.all_eq_true] at h
    rw [hy]; exact h _ (List.getElem_mem hlt)
   have hn2 : 0 ≤ l.at_ k ∧ l.at_ k ≤ 1099511627776 := at_low HW.out hk4 HNE.out
   have hplus := fun w => plus_any y (l.at_ k) w (may_within hym) hn2
   have hjoin := fun w => join_any o (y.plus (l.at_ k)) w HLow.out.1 HLow.out.2.1 HLow.out.2.2.1 HLow.out.2.2.2
   have HP := hid hplus
   have HJ := hid hjoin
   have HST := hid (show instStep ls (some o) ((k : Int),l.at_ k) = some (o.join (y.plus (l.at_ k))) by simp [instStep,hlt,← hy])
   obtain ⟨g0,g1,g2,g3,g4⟩ := Lv.cells HO.out
   clear hym hn2 hplus hjoin hy
   gi_wp2
   gi_region_with_o (first
    | ((first | (refine ⟨trivial,?_⟩; gi_at_call 167) | gi_at_call 167); refine (CallsIn.inRound lo (callsIn_wide.2 (HP.out _))).mono ?_; rintro e v1 ⟨rfl,b1⟩; have HO1 := hid (keep b1 HO.out); have B1 := hid b1; clear b1; obtain ⟨g0,g1,g2,g3,g4⟩ := Lv.cells HO1.out; dsimp only [Lv.val])
    | ((first | (refine ⟨trivial,?_⟩; gi_at_call 166) | gi_at_call 166); refine (CallsIn.inRound lo (callsIn_wide.2 (HJ.out _))).mono ?_; rintro e v2 ⟨rfl,b2⟩; have HO2 := hid (keep b2 HO1.out); have B2 := hid b2; clear b2; obtain ⟨g0,g1,g2,g3,g4⟩ := Lv.cells HO2.out; obtain ⟨k0,k1,k2,k3,k4⟩ := Lv.frees HO2.out; dsimp only [Lv.val]))
   all_goals gi_wp2
   all_goals exact inst_round HB.out B1.out B2.out HO2.out (by omega) HZ.out HE.out HS.out (by omega) (by omega) (by omega) (by rw [List.map_append,List.map_singleton,instAll_snoc,HI.out]; exact HST.out) (Lv.low_join HLow.out)
  ·have hge : (ls.length ≤ k) = True := by simp; omega
   have HST := hid (show instStep ls (some o) ((k : Int),l.at_ k) = none by simp [instStep,hlt])
   obtain ⟨g0,g1,g2,g3,g4⟩ := Lv.cells HZ.out
   obtain ⟨k0,k1,k2,k3,k4⟩ := Lv.frees HZ.out
   have e0 := one_cell HE.out
   have e1 := free_one HE.out
   clear hlt
   gi_wp2
   exact inst_left HB.out HZ.out HE.out (by rw [List.map_append,List.map_singleton,instAll_snoc,HI.out]; exact HST.out)
 case done =>
  rintro D ys W hD hys ⟨⟨o,ho,hlow,hO,hZ,hE,hS⟩,hB⟩ hK
  rw [hys] at ho
  have HX2 := HX.out
  rw [ho] at HX2
  have hans := fun w => answer_any o w
  simp only at HX2
  rw [← HX2] at hans
  obtain ⟨A,q⟩ := X
  dsimp only at hans ⊢
  have HN := hid hans
  have HZ := hid hZ
  have HE := hid hE
  have HB := hid hB
  have HK := hid hK
  obtain ⟨g0,g1,g2,g3,g4⟩ := Lv.cells hO
  clear hans hZ hE hB hK hO hS hlow ho hys HX2 HX
  gi_wp2_with fail
  refine ⟨trivial,?_⟩
  refine (callsIn_wide.2 (HN.out _)).mono ?_
  rintro e w5 ⟨rfl,b5⟩
  have HZ5 := hid (keep b5 HZ.out)
  have HE5 := hid (keep b5 HE.out)
  have HK5 := hid (keep b5 HK.out)
  have HB5 := hid (HB.out.trans (b5.mono HB.out.size))
  clear b5 g0 g1 g2 g3 g4
  obtain ⟨g0,g1,g2,g3,g4⟩ := Lv.cells HZ5.out
  obtain ⟨k0,k1,k2,k3,k4⟩ := Lv.frees HZ5.out
  have e0 := one_cell HE5.out
  have e1 := free_one HE5.out
  dsimp only [Lv.val]
  gi_wp2_with fail
  obtain ⟨x1,x2,x3,x4⟩ := inst_fin HB5.out HZ5.out HE5.out HK5.out (by simp at hD; omega) A q
  generalize hW : (put5 w5 (w.heap.size + 1 + 1) A).setCell ⟨w.heap.size + 1 + 1 + 1,0,none⟩ (.int .i64 q) = W6 at x1 x2 x3 x4
  rw [put5] at hW
  rw [hW]
  obtain ⟨r0,r1,r2,r3,r4⟩ := Lv.cells x2
  have r5 := one_cell x3
  refine ⟨by simp,.inl ⟨_,_,rfl,run_takeDeferred x1,?_⟩⟩
  exact ⟨.tuple #[.agg #[.int .i64 A.c,.int .i64 A.p0,.int .i64 A.p1,.int .i64 A.p2,.int .i64 A.p3],.int .i64 q],by simp [results,Tryz.results116,go_sem,r0,r1,r2,r3,r4,r5],rfl,x4⟩
 case stop =>
  rintro D c pre W hD hpre ⟨⟨rfl,hnone,hZ,hE⟩,hB⟩ hK
  have hno := instAll_prefix hpre hnone
  have HX2 := HX.out
  rw [hno] at HX2
  simp only at HX2
  subst HX2
  dsimp only
  have HZ := hid hZ
  have HE := hid hE
  have HB := hid hB
  have HK := hid hK
  clear hZ hE hB hK hnone hno HX
  gi_wp2
  obtain ⟨r0,r1,r2,r3,r4⟩ := leave HZ.out HK.out
  have r5 := one_cell ((grownBy_keeps_cells (grownBy_putObj' W D (.deferred none)) (fun r e => by cases e; exact ⟨_,HK.out,rfl⟩) HE.out rfl).trans HE.out)
  refine ⟨by simp,.inl ⟨_,_,rfl,run_takeDeferred HK.out,?_⟩⟩
  exact ⟨.tuple #[.agg #[.int .i64 0,.int .i64 0,.int .i64 0,.int .i64 0,.int .i64 0],.int .i64 8],by simp [results,Tryz.results116,go_sem,r0,r1,r2,r3,r4,r5,zero],rfl,HB.out.trans (belowK_b (w := w) (Nat.le_refl _) W D _ _ (by simp at hD; omega) HK.out rfl rfl)⟩
theorem inst_any (l : Lv) (ao : Option Addr) (cap : Nat) (ls : List Lv) (w : World) (hr : LRow w ao ls) (hn : ls.length ≤ 9000000000000000000) :
 Calls Tryz.prog 116 #[l.val,.slice ao ls.length cap] w fun e w' => e = .returned (.tuple #[(inst l ls).1.val,.int .i64 (inst l ls).2]) ∧ Below w.heap.size w w' := by
 cases hl : l.may
 ·have e : inst l ls = (zero,1) := by simp [inst,hl]
  rw [e]
  exact inst_no l ao cap ls w hl
 ·cases hls : ls.all Lv.may
  ·have e : inst l ls = (zero,1) := by rw [inst,if_neg (by simp [hls])]
   rw [e]
   exact inst_no2 l ao cap ls w hr hn hl hls
  ·exact inst_yes l ao cap ls w hr hn hl hls
end Go.Proofs.YtiekbhlnnmnklaaGreat
namespace Go.Proofs.YtiekbhlnnmnklaaGreat
namespace Lvl
def stepI (o b : Lv) (p : Int) : Lv := if p = -1 then o else o.join (b.plus p)
theorem stepI_fine {o b : Lv} {p : Int} (ho : o.fine) (hb : b.fine) (hp : -1 ≤ p) : (stepI o b p).fine := by
 unfold stepI
 by_cases h : p = -1
 ·rw [if_pos h]; exact ho
 ·rw [if_neg h]; exact join_fine ho (plus_fine hb p (by omega))
theorem ev_stepI {o b : Lv} {p : Int} (ho : o.fine) (hb : b.fine) (hp : -1 ≤ p) (n : Four) : ev (stepI o b p) n = stepM (ev o n) p (ev b n) := by
 unfold stepI stepM
 by_cases h : p = -1
 ·rw [if_pos h,if_pos h]
 ·rw [if_neg h,if_neg h,ev_join ho (plus_fine hb p (by omega)),ev_plus hb p (by omega)]
theorem inst_one {ls : List Lv} (o b : Lv) (k : Nat) (p : Int) (r : List (Int × Int)) (hk : ls[k]? = some b) : (one k p ++ r).foldl (instStep ls) (some o) = r.foldl (instStep ls) (some (stepI o b p)) := by
 obtain ⟨hl,hb⟩ := List.getElem?_eq_some_iff.1 hk
 unfold one stepI
 by_cases h : p = -1
 ·rw [if_pos h,if_pos h]; rfl
 ·rw [if_neg h,if_neg h]
  simp [instStep,hl,hb]
theorem ev_number (c : Int) (n : Four) : ev (number c) n = c := by simp [ev,number,stepM]
structure Row4 where
 b0 : Lv
 b1 : Lv
 b2 : Lv
 b3 : Lv
def Row4.list (r : Row4) : List Lv := [r.b0,r.b1,r.b2,r.b3]
def Row4.okAll (r : Row4) : Prop := r.b0.ok ∧ r.b1.ok ∧ r.b2.ok ∧ r.b3.ok
def Row4.ev (r : Row4) (n : Four) : Four := ⟨Lvl.ev r.b0 n,Lvl.ev r.b1 n,Lvl.ev r.b2 n,Lvl.ev r.b3 n⟩
def instO (l : Lv) (r : Row4) : Lv := stepI (stepI (stepI (stepI (number l.c) r.b0 l.p0) r.b1 l.p1) r.b2 l.p2) r.b3 l.p3
theorem inst_row {l : Lv} {r : Row4} (hl : l.ok) (hr : r.okAll) : inst l r.list = ans (instO l r) := by
 have ha : r.list.all Lv.may = true := by
  obtain ⟨h0,h1,h2,h3⟩ := hr
  simp [Row4.list,(may_iff _).2 h0,(may_iff _).2 h1,(may_iff _).2 h2,(may_iff _).2 h3]
 rw [inst,if_pos ⟨(may_iff l).2 hl,ha⟩]
 have h : l.ps = one ((0 : Nat) : Int) l.p0 ++ (one ((1 : Nat) : Int) l.p1 ++ (one ((2 : Nat) : Int) l.p2 ++ (one ((3 : Nat) : Int) l.p3 ++ []))) := by simp [Lv.ps]
 have e : instAll r.list (number l.c) l.ps = some (instO l r) := by
  unfold instAll
  rw [h,inst_one _ r.b0 0 _ _ rfl,inst_one _ r.b1 1 _ _ rfl,inst_one _ r.b2 2 _ _ rfl,inst_one _ r.b3 3 _ _ rfl]
  rfl
 rw [e]
theorem number_fine {c : Int} (h : 0 ≤ c) : (number c).fine := by unfold Lv.fine number; simp [h]
theorem instO_fine {l : Lv} {r : Row4} (hl : l.ok) (hr : r.okAll) : (instO l r).fine := by
 obtain ⟨h0,h1,h2,h3⟩ := hr
 have hf := hl.fine
 obtain ⟨c,p0,p1,p2,p3⟩ := hf
 exact stepI_fine (stepI_fine (stepI_fine (stepI_fine (number_fine c) h0.fine p0) h1.fine p1) h2.fine p2) h3.fine p3
theorem ev_instO {l : Lv} {r : Row4} (hl : l.ok) (hr : r.okAll) (n : Four) : ev (instO l r) n = ev l (r.ev n) := by
 obtain ⟨h0,h1,h2,h3⟩ := hr
 have hf := hl.fine
 obtain ⟨c,p0,p1,p2,p3⟩ := hf
 have f0 := stepI_fine (number_fine c) h0.fine p0
 have f1 := stepI_fine f0 h1.fine p1
 have f2 := stepI_fine f1 h2.fine p2
 unfold instO
 rw [ev_stepI f2 h3.fine p3,ev_stepI f1 h2.fine p2,ev_stepI f0 h1.fine p1,ev_stepI (number_fine c) h0.fine p0,ev_number]
 rfl
theorem formed_ok {o : Lv} (ho : o.fine) (hw : o.form.within = true) : o.form.ok := by
 have hw := (within_iff _).1 hw
 have hff := form_formed _ ho
 unfold Lv.formed at hff
 obtain ⟨e0,e1,e2,e3⟩ := form_p o
 unfold Lv.ok
 rw [e0,e1,e2,e3] at hw ⊢
 unfold Lv.fine at ho
 generalize o.form.c = z at *
 rcases hff with hff | hff <;> omega
theorem fine_p {a b : Lv} (hb : b.fine) (h : ∀ n : Four,n.pos → ev a n ≤ ev b n) : a.p0 ≤ b.p0 ∧ a.p1 ≤ b.p1 ∧ a.p2 ≤ b.p2 ∧ a.p3 ≤ b.p3 := by
 have lo (n : Four) := (ev_le a n (ev a n)).1 (Int.le_refl _)
 have hi (n : Four) (x : Int) (h : ¬ ev b n ≤ x) : ¬ _ := fun k => h ((ev_le b n x).2 k)
 unfold Lv.fine at hb
 obtain ⟨g,hg⟩ : ∃ g : Int,g = b.c + (b.p0 + 1) + (b.p1 + 1) + (b.p2 + 1) + (b.p3 + 1) + 1 := ⟨_,rfl⟩
 refine ⟨?_,?_,?_,?_⟩
 ·have l := lo ⟨g,0,0,0⟩
  have k := h ⟨g,0,0,0⟩ (by unfold Four.pos; simp only; omega)
  by_cases e : a.p0 ≤ b.p0
  ·exact e
  ·exact absurd k (fun k => hi ⟨g,0,0,0⟩ (g + a.p0 - 1) (by simp only at l; omega) (by simp only at *; omega))
 ·have l := lo ⟨0,g,0,0⟩
  have k := h ⟨0,g,0,0⟩ (by unfold Four.pos; simp only; omega)
  by_cases e : a.p1 ≤ b.p1
  ·exact e
  ·exact absurd k (fun k => hi ⟨0,g,0,0⟩ (g + a.p1 - 1) (by simp only at l; omega) (by simp only at *; omega))
 ·have l := lo ⟨0,0,g,0⟩
  have k := h ⟨0,0,g,0⟩ (by unfold Four.pos; simp only; omega)
  by_cases e : a.p2 ≤ b.p2
  ·exact e
  ·exact absurd k (fun k => hi ⟨0,0,g,0⟩ (g + a.p2 - 1) (by simp only at l; omega) (by simp only at *; omega))
 ·have l := lo ⟨0,0,0,g⟩
  have k := h ⟨0,0,0,g⟩ (by unfold Four.pos; simp only; omega)
  by_cases e : a.p3 ≤ b.p3
  ·exact e
  ·exact absurd k (fun k => hi ⟨0,0,0,g⟩ (g + a.p3 - 1) (by simp only at l; omega) (by simp only at *; omega))
theorem same_form {a b : Lv} (ha : a.fine) (hb : b.fine) (h : ∀ n : Four,n.pos → ev a n = ev b n) : a.form = b.form := by
 obtain ⟨x0,x1,x2,x3⟩ := fine_p hb (fun n hn => Int.le_of_eq (h n hn))
 obtain ⟨y0,y1,y2,y3⟩ := fine_p ha (fun n hn => Int.le_of_eq (h n hn).symm)
 have e0 : a.p0 = b.p0 := by omega
 have e1 : a.p1 = b.p1 := by omega
 have e2 : a.p2 = b.p2 := by omega
 have e3 : a.p3 = b.p3 := by omega
 refine form_ext ha hb e0 e1 e2 e3 ?_
 intro x y hx hy
 have hz := h ⟨0,0,0,0⟩ (by simp [Four.pos])
 unfold Lv.formed at hx hy
 unfold Lv.fine at ha hb
 rw [e0,e1,e2,e3] at hx
 rcases hx with ⟨rfl,hx'⟩ | ⟨rfl,hx'⟩ <;> rcases hy with ⟨rfl,hy'⟩ | ⟨rfl,hy'⟩
 ·have ua : ev a ⟨0,0,0,0⟩ ≤ a.c := (ev_le _ _ _).2 (by rw [e0,e1,e2,e3]; simp only; omega)
  have ub : ev b ⟨0,0,0,0⟩ ≤ b.c := (ev_le _ _ _).2 (by simp only; omega)
  have la := ((ev_le a ⟨0,0,0,0⟩ _).1 (Int.le_refl _)).1
  have lb := ((ev_le b ⟨0,0,0,0⟩ _).1 (Int.le_refl _)).1
  omega
 ·exfalso
  have la := ((ev_le a ⟨0,0,0,0⟩ _).1 (Int.le_refl _)).1
  have ub : ev b ⟨0,0,0,0⟩ ≤ a.c - 1 := (ev_le _ _ _).2 (by
   simp only
   refine ⟨?_,by omega,by omega,by omega,by omega⟩
   rcases hy' with hy' | hy' | hy' | hy' <;> omega)
  omega
 ·exfalso
  have lb := ((ev_le b ⟨0,0,0,0⟩ _).1 (Int.le_refl _)).1
  have ua : ev a ⟨0,0,0,0⟩ ≤ b.c - 1 := (ev_le _ _ _).2 (by
   rw [e0,e1,e2,e3]
   simp only
   refine ⟨?_,by omega,by omega,by omega,by omega⟩
   rcases hx' with hx' | hx' | hx' | hx' <;> omega)
  omega
 ·rfl
def own : Row4 := ⟨⟨0,0,-1,-1,-1⟩,⟨0,-1,0,-1,-1⟩,⟨0,-1,-1,0,-1⟩,⟨0,-1,-1,-1,0⟩⟩
theorem own_ok : own.okAll := by simp [Row4.okAll,own,Lv.ok]
theorem ev_own {n : Four} (hn : n.pos) : own.ev n = n := by
 obtain ⟨h0,h1,h2,h3⟩ := hn
 have e (x : Int) (h : 0 ≤ x) : max 0 x = x := by omega
 cases n
 simp only [Row4.ev,own,ev,stepM] at *
 simp [e,h0,h1,h2,h3]
end Lvl
end Go.Proofs.YtiekbhlnnmnklaaGreat
namespace Go.Proofs.YtiekbhlnnmnklaaGreat
open Go.RowKit Go.Shelf Lvl Trm
theorem Lvl.infoL : (Tryz.prog.info? 61).map (fun i => (i.zero,i.size,i.bytes)) = some (some (.agg #[.int .i64 0,.int .i64 0,.int .i64 0,.int .i64 0,.int .i64 0]),5,40) := by kernel_rfl
namespace Lvl
def Lv.list5 (l : Lv) : List Value := [.int .i64 l.c,.int .i64 l.p0,.int .i64 l.p1,.int .i64 l.p2,.int .i64 l.p3]
def flatL (ls : List Lv) : List Value := ls.flatMap Lv.list5
theorem flatL_at (ls : List Lv) : ∀ k (hk : k < ls.length) q,q < 5 → (flatL ls)[k * 5 + q]? = (ls[k]).list5[q]? := by
 induction ls with
 | nil => intro k hk; simp at hk
 | cons p r ih =>
   intro k hk q hq
   have h5 : p.list5.length = 5 := rfl
   match k,hk with
   | 0,_ =>
     show (p.list5 ++ flatL r)[0 * 5 + q]? = _
     rw [List.getElem?_append_left (by omega)]
     simp
   | k + 1,hk =>
     show (p.list5 ++ flatL r)[(k + 1) * 5 + q]? = _
     rw [List.getElem?_append_right (by omega),h5,show (k + 1) * 5 + q - 5 = k * 5 + q by omega]
     exact ih k (by simpa using hk) q hq
theorem row_of_own {w : World} {base n : Nat} {v : Value} {ls : List Lv} (hn : n = ls.length) (h : w.ownsRow base 61 5 v n (flatL ls)) : ∃ ao cap,v = .slice ao ls.length cap ∧ LRow w ao ls ∧ ∀ x,ao = some x → base ≤ x.block ∧ x.block < w.heap.size := by
 subst hn
 obtain ⟨hl,⟨hv,h0⟩ | ⟨g,cap,cur,rfl,hb,hg,hm,hmx,hs,ht⟩⟩ := h
 ·have h0' : ls.length = 0 := h0
  exact ⟨none,0,by rw [hv,h0'],⟨fun k hk => absurd hk (by omega)⟩,fun x hx => by cases hx⟩
 ·have hgl : g < w.heap.size := (Array.getElem?_eq_some_iff.1 hg).1
  refine ⟨some ⟨g,0,none⟩,cap,rfl,⟨fun k hk => ⟨g,0,rfl,?_⟩⟩,fun x hx => by cases hx; exact ⟨hb,hgl⟩⟩
  have key : ∀ q,q < 5 → ∀ u,(ls[k]).list5[q]? = some u → w.cell? ⟨g,0 + k * 5 + q,none⟩ = some u := fun q hq u hu => by
   rw [← flatL_at ls k hk q hq,← ht,List.getElem?_take_of_lt (by omega),Array.getElem?_toList] at hu
   rw [Nat.zero_add]
   simp [World.cell?,hg,hu]
  exact ⟨key 0 (by omega) _ rfl,key 1 (by omega) _ rfl,key 2 (by omega) _ rfl,key 3 (by omega) _ rfl,key 4 (by omega) _ rfl⟩
end Lvl
end Go.Proofs.YtiekbhlnnmnklaaGreat
