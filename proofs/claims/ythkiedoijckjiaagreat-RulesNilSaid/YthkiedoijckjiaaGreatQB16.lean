/-
 A row of terms of the call's own,appended tq0 in a loop whose round calls what makes the terms; a row of levels likewise; a node of both.
-/
import Derived.Lib.Hide
import Derived.Test.YthkiedoijckjiaaGreatQB15
import Derived.Test.YthkiedoijckjiaaGreatQB6
import Derived.Test.YthkiedoijckjiaaGreatQB12
import Derived.Deep.RegionHeld3
import Derived.Test.YthkiedoijckjiaaGreatQB14
import Derived.Test.YthkiedoijckjiaaGreatQB2
import Derived.Test.YthkiedoijckjiaaGreatProg
import Derived.Great.Walk
import Derived.Laws.Rows
import Derived.Test.YthkiedoijckjiaaGreatQB3
import Derived.OpenShut
import Derived.ChangeArms
import Derived.DataReads
open Go.Lib (hid)
set_option maxRecDepth 100000
set_option maxHeartbeats 32000000
namespace Go.Proofs.YthkiedoijckjiaaGreat
open Go.RowKit Go.Shelf Lvl Trm
namespace Trm
theorem LRow.ranS {P : Nat → Prop} {w w' : World} {ao : Option Addr} {ls : List Lv} (h : LRow w ao ls) (hr : RanS P w w') (hb : ∀ x,ao = some x → x.block < w.heap.size ∧ ¬ P x.block) : LRow w' ao ls := by
 refine ⟨fun k hk => ?_⟩
 obtain ⟨b,off,hao,ha⟩ := h.place k hk
 obtain ⟨hb1,hb2⟩ : b < w.heap.size ∧ ¬ P b := hb _ hao
 exact ⟨b,off,hao,(hr.cell (p := ⟨b,_,none⟩) hb1 hb2).trans ha.1,(hr.cell (p := ⟨b,_,none⟩) hb1 hb2).trans ha.2.1,(hr.cell (p := ⟨b,_,none⟩) hb1 hb2).trans ha.2.2.1,(hr.cell (p := ⟨b,_,none⟩) hb1 hb2).trans ha.2.2.2.1,(hr.cell (p := ⟨b,_,none⟩) hb1 hb2).trans ha.2.2.2.2⟩
def RowG (B : Nat) (w1 : World) (R : List Tm) (v i : Value) (wr : World) : Prop :=
 ∃ (j : Nat) (ps : List (Tm × Hd)),i = .int .i64 j ∧ j ≤ R.length ∧ ps.length = j ∧ ps.map (·.1) = R.take j ∧ Below w1.heap.size w1 wr ∧ wr.ownsRow w1.heap.size 25 5 v ps.length (flat ps) ∧
   ∀ p ∈ ps,FirmS (fun q => B ≤ q ∧ (q < w1.heap.size ∨ v.ownBlock = some q)) wr p.1 p.2
theorem RowG.start (B : Nat) (w1 : World) (R : List Tm) : RowG B w1 R (.slice none 0 0) (.int .i64 0) w1 :=
 ⟨0,[],rfl,by omega,rfl,rfl,Below.refl _ _,⟨rfl,Or.inl ⟨rfl,rfl⟩⟩,fun p hp => by simp at hp⟩
theorem RowG.step {B : Nat} {w1 : World} {R : List Tm} {v i' : Value} {wr w4 w5 : World} {j g cap n' : Nat} {ps : List (Tm × Hd)} {y : Tm} {hy : Hd} {ob : Obj} {L : Nat} (hRl : R.length = L) (hRy : R[j]? = some y) (hlt : j < L) (hpl : ps.length = j) (hmap : ps.map (·.1) = R.take j)
 (hbel : Below w1.heap.size w1 wr) (hown : wr.ownsRow w1.heap.size 25 5 v ps.length (flat ps))
 (hf : ∀ p ∈ ps,FirmS (fun q => B ≤ q ∧ (q < w1.heap.size ∨ v.ownBlock = some q)) wr p.1 p.2) (hb4 : Below wr.heap.size wr w4) (hfy : FirmS (fun q => B ≤ q ∧ q < wr.heap.size) w4 y hy) (hBw : B ≤ w1.heap.size)
 (hn' : n' = ps.length + 1) (hown5 : w5.ownsRow w1.heap.size 25 5 (.slice (some ⟨g,0,none⟩) n' cap) n' (flat ps ++ (y.vals hy).toList)) (hgrow : (w4.alloc ob).grownBy w5 v.ownBlock) (hat : v.ownBlock = some g ∨ g = w4.heap.size + 1) (hi : i' = .int .i64 ((j + 1 : Nat) : Int)) :
 RowG B w1 R (.slice (some ⟨g,0,none⟩) n' cap) i' w5 := by
 subst hn'
 have h1 := hb4.alloc hb4.size ob
 have hz0 := hbel.size
 have hz1 : wr.heap.size ≤ w4.heap.size := hb4.size
 have hz5 : w4.heap.size + 1 ≤ w5.heap.size := by have := hgrow.size; simpa using this
 have h6 : Below w1.heap.size wr w5 := by
  refine ⟨hgrow.os.trans h1.os,hgrow.tape.trans h1.tape,hgrow.output.trans h1.output,Nat.le_trans h1.size hgrow.size,fun k hk => ?_⟩
  have hk2 : k < wr.heap.size := by omega
  rw [hgrow.block k (Nat.lt_of_lt_of_le hk2 h1.size) (fun he => by have := own_low hown he.symm; omega),h1.block k hk2]
 refine ⟨j + 1,ps ++ [(y,hy)],hi,by omega,by simp [hpl],?_,hbel.trans h6,by rw [flat_snoc,List.length_append]; exact hown5,?_⟩
 ·rw [List.map_append,hmap,List.take_add_one,hRy]; rfl
 ·intro p hp w' hr
  rcases List.mem_append.1 hp with hp | hp
  ·refine hf p hp w' ⟨hr.os.trans (h6.os),hr.tape.trans h6.tape,hr.output.trans h6.output,Nat.le_trans h6.size hr.size,fun k hk hn => ?_⟩
   have hn5 : w5.heap[k]? = wr.heap[k]? := by
    rw [hgrow.block k (by simp; omega) (fun he => hn ⟨by have := own_low hown he.symm; omega,Or.inr he.symm⟩),h1.block k hk]
   rw [← hn5]
   refine hr.block k (Nat.lt_of_lt_of_le hk h6.size) ?_
   rintro ⟨hq1,hq2 | hq2⟩
   ·exact hn ⟨hq1,Or.inl hq2⟩
   ·have hkg : g = k := by simpa [Value.ownBlock] using hq2
    subst hkg
    rcases hat with hat | hat
    ·exact hn ⟨hq1,Or.inr hat⟩
    ·omega
  ·simp at hp
   subst hp
   refine hfy w' ⟨hr.os.trans (hgrow.os),hr.tape.trans hgrow.tape,hr.output.trans hgrow.output,Nat.le_trans (by omega) hr.size,fun k hk hn => ?_⟩
   have hn5 : w5.heap[k]? = w4.heap[k]? := by
    rw [hgrow.block k (by simp; omega) (fun he => by have := own_low hown he.symm; exact hn ⟨by omega,by omega⟩)]
    exact (below_one w4 ob).block k hk
   rw [← hn5]
   refine hr.block k (by omega) ?_
   rintro ⟨hq1,hq2 | hq2⟩
   ·exact hn ⟨hq1,by omega⟩
   ·have hkg : g = k := by simpa [Value.ownBlock] using hq2
    subst hkg
    rcases hat with hat | hat
    ·have := own_low hown hat
     exact hn ⟨hq1,by omega⟩
    ·omega
theorem RowG.below {w1 wr w4 w5 : World} {n : Nat} {v : Value} {xs : List Value} {o : Obj} (hb4 : Below wr.heap.size wr w4) (hown : wr.ownsRow w1.heap.size 25 5 v n xs) (hg : (w4.alloc o).grownBy w5 v.ownBlock) (h2 : w1.heap.size ≤ wr.heap.size) : Below w1.heap.size wr w5 := by
 have h1 := hb4.alloc hb4.size o
 refine ⟨hg.os.trans h1.os,hg.tape.trans h1.tape,hg.output.trans h1.output,Nat.le_trans h1.size hg.size,fun k hk => ?_⟩
 have hk2 : k < wr.heap.size := by omega
 rw [hg.block k (Nat.lt_of_lt_of_le hk2 h1.size) (fun he => by have := own_low hown he.symm; omega),h1.block k hk2]
def RowL (w1 : World) (R : List Lv) (v i : Value) (wr : World) : Prop :=
 ∃ j : Nat,i = .int .i64 j ∧ j ≤ R.length ∧ Below w1.heap.size w1 wr ∧ wr.ownsRow w1.heap.size 35 5 v j (flatL (R.take j))
theorem RowL.start (w1 : World) (R : List Lv) : RowL w1 R (.slice none 0 0) (.int .i64 0) w1 := ⟨0,rfl,by omega,Below.refl _ _,⟨rfl,Or.inl ⟨rfl,rfl⟩⟩⟩
theorem flatL_snoc (ls : List Lv) (x : Lv) : flatL (ls ++ [x]) = flatL ls ++ x.list5 := by simp [flatL]
theorem RowL.step {w1 : World} {R : List Lv} {v i' : Value} {wr w4 w5 : World} {j g cap n' : Nat} {y : Lv} {ob : Obj} (hRy : R[j]? = some y) (hlt : j < R.length) (hbel : Below w1.heap.size w1 wr) (hown : wr.ownsRow w1.heap.size 35 5 v j (flatL (R.take j)))
 (hb4 : Below wr.heap.size wr w4) (hn' : n' = j + 1) (hown5 : w5.ownsRow w1.heap.size 35 5 (.slice (some ⟨g,0,none⟩) n' cap) n' (flatL (R.take j) ++ y.list5)) (hgrow : (w4.alloc ob).grownBy w5 v.ownBlock) (hi : i' = .int .i64 ((j + 1 : Nat) : Int)) :
 RowL w1 R (.slice (some ⟨g,0,none⟩) n' cap) i' w5 := by
 subst hn'
 have h1 := hb4.alloc hb4.size ob
 have hz0 := hbel.size
 refine ⟨j + 1,hi,by omega,hbel.trans ⟨hgrow.os.trans h1.os,hgrow.tape.trans h1.tape,hgrow.output.trans h1.output,Nat.le_trans h1.size hgrow.size,fun k hk => ?_⟩,by rw [List.take_add_one,hRy]; exact (flatL_snoc _ _) ▸ hown5⟩
 have hk2 : k < wr.heap.size := by omega
 rw [hgrow.block k (Nat.lt_of_lt_of_le hk2 h1.size) (fun he => by have := own_low hown he.symm; omega),h1.block k hk2]
end Trm
end Go.Proofs.YthkiedoijckjiaaGreat
namespace Go.Proofs.YthkiedoijckjiaaGreat
open Go.RowKit Go.Shelf Lvl Trm
namespace Lvl
end Lvl
end Go.Proofs.YthkiedoijckjiaaGreat
namespace Go.Proofs.YthkiedoijckjiaaGreat
namespace Lvl
theorem ans_form {a b : Lv} (h : a.form = b.form) : ans a = ans b := by
 unfold ans; rw [h]
theorem inst_own {l : Lv} (hl : l.ok) : inst l own.list = (l,0) := by
 have e : (instO l own).form = l.form := same_form (instO_fine hl own_ok) hl.fine fun n hn => by rw [ev_instO hl own_ok,ev_own hn]
 rw [inst_row hl own_ok,ans,e,ok_formed hl,if_pos ((within_iff l).2 ⟨hl.1,hl.2.1,hl.2.2.1,hl.2.2.2.1,hl.2.2.2.2.1⟩)]
end Lvl
end Go.Proofs.YthkiedoijckjiaaGreat
namespace Go.Proofs.YthkiedoijckjiaaGreat
open Go.RowKit Go.Shelf Lvl Trm
namespace Lvl
theorem form_may {l : Lv} (h : l.fine) : l.form.may = l.form.within := by
 cases hw : l.form.within
 ·unfold Lv.may; rw [hw]; rfl
 ·exact (may_iff _).2 (formed_ok h hw)
end Lvl
end Go.Proofs.YthkiedoijckjiaaGreat
namespace Go.Proofs.YthkiedoijckjiaaGreat
open Go.RowKit Go.Shelf Lvl Trm
namespace Lvl
def ISt (ls : List Lv) (l : Lv) (k : Nat) (out : Lv) : Prop := ∃ o,instAll ls (number l.c) (l.upto k) = some o ∧ o.fine ∧ out.fine ∧ ∀ n : Four,n.pos → ev out n = ev o n
theorem ISt.start (ls : List Lv) {l : Lv} (hl : l.ok) : ISt ls l 0 (number l.c) :=
 ⟨number l.c,rfl,number_fine hl.1.1,number_fine hl.1.1,fun _ _ => rfl⟩
theorem ISt.skip {ls : List Lv} {l out : Lv} {k : Nat} (h : ISt ls l k out) (hk : k < 4) (hp : l.at_ k = -1) : ISt ls l (k + 1) out := by
 obtain ⟨o,h1,h2⟩ := h
 exact ⟨o,by rw [l.upto_skip k hk hp]; exact h1,h2⟩
theorem ISt.step {ls : List Lv} {l out : Lv} {k : Nat} (h : ISt ls l k out) (hk : k < 4) (hp : 0 ≤ l.at_ k) (hlt : k < ls.length) (hb : (ls[k]).fine) : ISt ls l (k + 1) (out.join ((ls[k]).plus (l.at_ k)).form).form := by
 obtain ⟨o,h1,h2,h3,h4⟩ := h
 have f1 := plus_fine hb (l.at_ k) hp
 have f2 := join_fine h3 (form_fine f1)
 refine ⟨o.join ((ls[k]).plus (l.at_ k)),?_,join_fine h2 f1,form_fine f2,fun n hn => ?_⟩
 ·rw [(l.upto_mem k hk (by omega)).2.2,instAll_snoc,h1]
  unfold instStep
  dsimp only
  rw [dif_pos (by simpa using hlt)]
  simp
 ·rw [ev_form f2 hn,ev_join h3 (form_fine f1),ev_form f1 hn,ev_join h2 f1,h4 n hn]
theorem ISt.done {ls : List Lv} {l out : Lv} (h : ISt ls l 4 out) (hm : l.may = true) (ha : ls.all Lv.may = true) : inst l ls = ans out ∧ out.fine := by
 obtain ⟨o,h1,h2,h3,h4⟩ := h
 have h5 : instAll ls (number l.c) l.ps = some o := h1
 refine ⟨?_,h3⟩
 unfold inst
 rw [if_pos ⟨hm,ha⟩,h5]
 exact (ans_form (same_form h3 h2 h4)).symm
end Lvl
end Go.Proofs.YthkiedoijckjiaaGreat
namespace Go.Proofs.YthkiedoijckjiaaGreat
open Go.RowKit Go.Shelf Lvl Trm
namespace Trm
def errL (L : List Lv) : List Lv → Int
 | [] => 0
 | l :: r => if (inst l L).2 = 0 then errL L r else (inst l L).2
mutual
def Tm.lerr (L : List Lv) : Tm → Int
 | .mk _ _ _ ls ts => if errL L ls = 0 then lerrL L ts else errL L ls
def lerrL (L : List Lv) : List Tm → Int
 | [] => 0
 | t :: r => if t.lerr L = 0 then lerrL L r else t.lerr L
end
def levB (L : List Lv) (t : Tm) : Tm × Int := if t.lerr L = 0 then (t.lmap (fL L),0) else (zeroT,t.lerr L)
end Trm
end Go.Proofs.YthkiedoijckjiaaGreat
namespace Go.Proofs.YthkiedoijckjiaaGreat
open Go.RowKit Go.Shelf Lvl Trm
namespace Trm
mutual
theorem thr_err {L : List Lv} : ∀ (t : Tm) (y : List Lv) (d u : Int),OkMay t d → LGood L y → (t.thr lfLev y u).2.1 = t.lerr L
 | .mk k n s ls ts,y,d,u,ho,hy => by
   rw [Tm.thr,Tm.lerr]
   by_cases hts : ts.isEmpty = true
   ·rw [if_pos hts]
    have h0 : ts = [] := List.isEmpty_iff.1 hts
    subst h0
    show (levL ls y).2.1 = _
    rw [levL_err ls y hy,lerrL]
    split
    ·assumption
    ·rfl
   ·rw [if_neg hts]
    have hls : ls = [] := node_inner ho.node.1 (show ts ≠ [] by simpa using hts)
    subst hls
    rw [if_pos (show errL L [] = 0 from rfl)]
    unfold fin
    exact thrL_err k ts y (d + 1) u (fun x hx => ho.down x hx) hy
theorem thrL_err {L : List Lv} (k : Int) : ∀ (ts : List Tm) (y : List Lv) (d u : Int),(∀ x ∈ ts,OkMay x d) → LGood L y → (thrL lfLev k ts y u).2.1 = lerrL L ts
 | [],y,d,u,_,hy => by rw [thrL,lerrL]
 | t :: r,y,d,u,ho,hy => by
   have h1 := thr_err (L := L) t y d (und k r.isEmpty u) (ho t (by simp)) hy
   rw [thrL,lerrL]
   by_cases he : (t.thr lfLev y (und k r.isEmpty u)).2.1 = 0
   ·rw [if_pos he,if_pos (by rw [← h1]; exact he)]
    exact thrL_err k r _ d _ (fun x hx => ho x (by simp [hx])) (((thr_lev (L := L) t y d (und k r.isEmpty u) (ho t (by simp)) hy).2 he).1)
   ·rw [if_neg he,if_neg (by rw [← h1]; exact he)]
    exact h1
theorem levL_err {L : List Lv} : ∀ (ls y : List Lv),LGood L y → (levL ls y).2.1 = errL L ls
 | [],y,_ => by rw [levL]; rfl
 | l :: r,y,hy => by
   rw [levL,errL]
   have e := hy.inst l
   by_cases ho : (inst l y).2 = 0
   ·rw [if_pos ho,if_pos (by rw [← e]; exact ho)]
    exact levL_err r _ (hy.next ho)
   ·rw [if_neg ho,if_neg (by rw [← e]; exact ho),e]
end
end Trm
end Go.Proofs.YthkiedoijckjiaaGreat
namespace Go.Proofs.YthkiedoijckjiaaGreat
open Go.Great
variable {P : Program}
theorem wp_bslice {o : Oper} {a : Act} {w : World} {K : Act → World → Prop} {Q : Exit → Act → World → Prop} (t e : TypeId) (len : Nat) (parts : Array (Nat × Operand)) (ho : o.op = .buildSlice t len parts) (dst : Option Tmp) (hdst : o.dst = dst)
 (cells : Array Value) (hu : P.underlying t = some (.slice e)) (hf : P.builtSlice e len (parts.map fun (i,x) => (i,a.eval x)).toList = some cells)
 (h : K (a.put dst (.slice (some ⟨w.heap.size,0,none⟩) len len)) (w.alloc (.cells cells e))) : o.wp P a w K Q := by
 subst hdst
 unfold Program.builtSlice at hf
 split at hf
 ·rename_i ie hie
  split at hf
  ·rename_i z hz
   split at hf
   ·cases hf
   ·rename_i hc
    exact wp_buildSlice t e len parts ho cells ie z hu hie hz (fun h' => hc (Or.inl h')) (fun h' => hc (Or.inr h')) hf h
  ·cases hf
 ·cases hf
theorem wpList_yes {ops : Array Oper} {rest : List Oper} {o : Oper} {a : Act} {w : World} {Q : Exit → Act → World → Prop} (hw : Region.wanted o (yielded ops a.tmps) = true)
 (h : ∀ K : Act → World → Prop,(∀ a w,wpList P ops Q rest a w → K a w) → o.wp P a w K Q) : wpList P ops Q (o :: rest) a w :=
 wpList_step fun K hK => by rw [if_pos hw]; exact h K hK
theorem wpList_bsliceG {ops : Array Oper} {rest : List Oper} {o : Oper} {a : Act} {w : World} {Q : Exit → Act → World → Prop} (hw : Region.wanted o (yielded ops a.tmps) = true) (t e : TypeId) (len : Nat) (parts : Array (Nat × Operand)) (ho : o.op = .buildSlice t len parts) (dst : Option Tmp) (hdst : o.dst = dst)
 (cells : Array Value) (hu : P.underlying t = some (.slice e)) (hf : P.builtSlice e len (parts.map fun (i,x) => (i,a.eval x)).toList = some cells)
 (h : wpList P ops Q rest (a.put dst (.slice (some ⟨w.heap.size,0,none⟩) len len)) (w.alloc (.cells cells e))) : wpList P ops Q (o :: rest) a w :=
 wpList_yes hw fun _ hK => wp_bslice t e len parts ho dst hdst cells hu hf (hK _ _ h)
end Go.Proofs.YthkiedoijckjiaaGreat
namespace Go.Proofs.YthkiedoijckjiaaGreat
open Go.RowKit Go.Shelf Lvl Trm
section
variable {H : Type} {enc : TypeId × Value → H} {w : World} {base : Nat} {sp : Nat → Bool} {hd : Bool}
theorem Trm.open_level {fuel : Nat} {cs : List Value} {x : DataW H × List MemPlace} (h : DataW.trod enc Tryz.prog w base sp hd fuel 35 cs = some x) :
 ∃ l : Lv,cs = [.int .i64 l.c,.int .i64 l.p0,.int .i64 l.p1,.int .i64 l.p2,.int .i64 l.p3] := by
 have hC : Tryz.prog.cellsOf 35 = 5 := by kernel_rfl
 have hI : Tryz.prog.cellsOf 3 = 1 := by kernel_rfl
 have hA : Tryz.prog.cellsOf 33 = 4 := by kernel_rfl
 obtain ⟨xs,n,_,_,hl,hxs,hf⟩ := DataW.trod_struct Tryz.underlying35 h
 rw [hC] at hl
 match cs,hl with
 | [v0,v1,v2,v3,v4],_ =>
   have g0 : DataW.trod enc Tryz.prog w base sp hd n 3 (([v0,v1,v2,v3,v4].drop 0).take (Tryz.prog.cellsOf 3)) = xs[0]? := hf 0 _ rfl
   have g1 : DataW.trod enc Tryz.prog w base sp hd n 33 (([v0,v1,v2,v3,v4].drop 1).take (Tryz.prog.cellsOf 33)) = xs[1]? := hf 1 _ rfl
   rw [hI] at g0
   rw [hA] at g1
   rw [List.getElem?_eq_getElem (by rw [hxs]; decide)] at g0 g1
   obtain ⟨z,hz,_,_⟩ := DataW.trod_int Tryz.underlying3 g0
   obtain ⟨ys,m,_,_,_,hys,ha⟩ := DataW.trod_array Tryz.underlying33 g1
   have a0 := ha 0 (by omega)
   have a1 := ha 1 (by omega)
   have a2 := ha 2 (by omega)
   have a3 := ha 3 (by omega)
   rw [hI] at a0 a1 a2 a3
   rw [List.getElem?_eq_getElem (by omega)] at a0 a1 a2 a3
   obtain ⟨z0,h0,_,_⟩ := DataW.trod_int Tryz.underlying3 a0
   obtain ⟨z1,h1,_,_⟩ := DataW.trod_int Tryz.underlying3 a1
   obtain ⟨z2,h2,_,_⟩ := DataW.trod_int Tryz.underlying3 a2
   obtain ⟨z3,h3,_,_⟩ := DataW.trod_int Tryz.underlying3 a3
   simp at hz h0 h1 h2 h3
   subst hz h0 h1 h2 h3
   exact ⟨⟨z,z0,z1,z2,z3⟩,rfl⟩
theorem Trm.add_none (b o i : Nat) : (⟨b,o,none⟩ : Addr).add i = ⟨b,o + i,none⟩ := by
 unfold Addr.add
 split
 ·rename_i h; rw [h]; rfl
 ·rfl
theorem Trm.add_zero (a : Addr) : a.add 0 = a := by simp [Addr.add]
theorem Trm.open_levels {fuel : Nat} {cs : List Value} {x : DataW H × List MemPlace} (h : DataW.trod enc Tryz.prog w base sp hd fuel 22 cs = some x) :
 ∃ (lo : Option Addr) (lc : Nat) (ls : List Lv),cs = [.slice lo ls.length lc] ∧ LRow w lo ls ∧ Low w.heap.size lo ls.length ∧ ls.length ≤ 9223372036854775807 ∧ ls.length ≤ lc := by
 have hC : Tryz.prog.cellsOf 35 = 5 := by kernel_rfl
 rcases DataW.trod_slice Tryz.underlying22 h with ⟨rfl,_⟩ | ⟨a,len,cap,elems,rest,n,_,rfl,_,_,hlc,hcm,hel,hall,_⟩
 ·exact ⟨none,0,[],rfl,⟨fun k hk => by simp at hk⟩,fun hn => by simp at hn,by simp,by simp⟩
 ·rw [hC] at hall
  have hnone : 0 < len → a.spot = none := fun h0 => by
   have hi' := hall 0 h0
   rw [List.getElem?_eq_getElem (by omega)] at hi'
   obtain ⟨cs,hcs,ht⟩ := Option.bind_eq_some_iff.1 hi'
   obtain ⟨_,_,hcell⟩ := World.cells?_some hcs
   obtain ⟨l,rfl⟩ := open_level ht
   have h0 := hcell 0 (by omega)
   rw [Nat.zero_mul,add_zero,add_zero] at h0
   exact World.cell?_spot (show w.cell? a = some (.int .i64 l.c) from h0)
  have key : ∀ i,i < len → ∃ l : Lv,∃ b off,a = ⟨b,off,none⟩ ∧ LAt w b (off + i * 5) l := fun i hi => by
   have hi' := hall i hi
   rw [List.getElem?_eq_getElem (by omega)] at hi'
   obtain ⟨cs,hcs,ht⟩ := Option.bind_eq_some_iff.1 hi'
   obtain ⟨_,_,hcell⟩ := World.cells?_some hcs
   obtain ⟨l,rfl⟩ := open_level ht
   have hs := hnone (by omega)
   obtain ⟨b,off,spot⟩ := a
   dsimp only at hs
   subst hs
   simp only [add_none] at hcell
   exact ⟨l,b,off,rfl,hcell 0 (by omega),hcell 1 (by omega),hcell 2 (by omega),hcell 3 (by omega),hcell 4 (by omega)⟩
  have key2 : ∃ ls : List Lv,ls.length = len ∧ ∀ k (hk : k < ls.length),∃ b off,a = ⟨b,off,none⟩ ∧ LAt w b (off + k * 5) ls[k] := by
   refine ⟨(List.range len).pmap (fun i hi => Classical.choose (key i hi)) (fun i hi => by simpa using hi),by simp,fun k hk => ?_⟩
   have hk' : k < len := by simpa using hk
   obtain ⟨b,off,ha,hl⟩ := Classical.choose_spec (key k hk')
   exact ⟨b,off,ha,by simpa using hl⟩
  obtain ⟨ls,rfl,hls⟩ := key2
  refine ⟨some a,cap,ls,rfl,⟨fun k hk => ?_⟩,fun hn a' ha' => ?_,?_,hlc⟩
  ·obtain ⟨b,off,rfl,hl⟩ := hls k hk
   exact ⟨b,off,rfl,hl⟩
  ·obtain ⟨b,off,rfl,hl⟩ := hls 0 hn
   cases ha'
   exact World.block_lt_of_cell? w _ hl.1
  ·have : maxLen = 9223372036854775807 := rfl
   omega
theorem Trm.open_term : ∀ (fuel : Nat) (cs : List Value) (x : DataW H × List MemPlace),DataW.trod enc Tryz.prog w base sp hd fuel 25 cs = some x →
 ∃ (t : Tm) (h : Hd),cs = (t.vals h).toList ∧ t.In w.heap.size w h := by
 have hC : Tryz.prog.cellsOf 25 = 5 := by kernel_rfl
 have hI : Tryz.prog.cellsOf 3 = 1 := by kernel_rfl
 have hU : Tryz.prog.cellsOf 5 = 1 := by kernel_rfl
 have hS : Tryz.prog.cellsOf 9 = 1 := by kernel_rfl
 have hL : Tryz.prog.cellsOf 22 = 1 := by kernel_rfl
 have hT : Tryz.prog.cellsOf 23 = 1 := by kernel_rfl
 intro fuel
 induction fuel using Nat.strongRecOn with
 | _ fuel ih =>
   intro cs x h
   obtain ⟨xs,n,hfu,_,hl,hxs,hf⟩ := DataW.trod_struct Tryz.underlying25 h
   rw [hC] at hl
   match cs,hl with
   | [v0,v1,v2,v3,v4],_ =>
     have g0 : DataW.trod enc Tryz.prog w base sp hd n 5 (([v0,v1,v2,v3,v4].drop 0).take (Tryz.prog.cellsOf 5)) = xs[0]? := hf 0 _ rfl
     rw [hU] at g0
     have g1 : DataW.trod enc Tryz.prog w base sp hd n 3 (([v0,v1,v2,v3,v4].drop 1).take (Tryz.prog.cellsOf 3)) = xs[1]? := hf 1 _ rfl
     rw [hI] at g1
     have g2 : DataW.trod enc Tryz.prog w base sp hd n 9 (([v0,v1,v2,v3,v4].drop 2).take (Tryz.prog.cellsOf 9)) = xs[2]? := hf 2 _ rfl
     rw [hS] at g2
     have g3 : DataW.trod enc Tryz.prog w base sp hd n 22 (([v0,v1,v2,v3,v4].drop 3).take (Tryz.prog.cellsOf 22)) = xs[3]? := hf 3 _ rfl
     rw [hL] at g3
     have g4 : DataW.trod enc Tryz.prog w base sp hd n 23 (([v0,v1,v2,v3,v4].drop 4).take (Tryz.prog.cellsOf 23)) = xs[4]? := hf 4 _ rfl
     rw [hT] at g4
     have hx5 : xs.length = 5 := hxs
     rw [List.getElem?_eq_getElem (by omega)] at g0 g1 g2 g3 g4
     obtain ⟨k,hk,_,wk⟩ := DataW.trod_int Tryz.underlying5 g0
     obtain ⟨m,hm,_,wm⟩ := DataW.trod_int Tryz.underlying3 g1
     obtain ⟨s,hs,_,hss⟩ := DataW.trod_string Tryz.underlying9 g2
     obtain ⟨lo,lc,ls,hls,hrow,hlow,hlen,hroom⟩ := open_levels g3
     have hts : ∃ (tq0 : Option Addr) (tc : Nat) (ts : List Tm),[v4] = [.slice tq0 ts.length tc] ∧ RowIn w.heap.size w tq0 0 ts ∧ ts.length ≤ 9223372036854775807 := by
      rcases DataW.trod_slice Tryz.underlying23 g4 with ⟨he,_⟩ | ⟨a,len,cap,elems,rest,n',hn',he,_,_,hlc,hcm,hel,hall,_⟩
      ·exact ⟨none,0,[],he,by rw [RowIn]; trivial,by simp⟩
      ·rw [hC] at hall
       have hnone : 0 < len → a.spot = none := fun h0 => by
        have hi' := hall 0 h0
        rw [List.getElem?_eq_getElem (by omega)] at hi'
        obtain ⟨cs,hcs,ht⟩ := Option.bind_eq_some_iff.1 hi'
        obtain ⟨_,_,hcell⟩ := World.cells?_some hcs
        obtain ⟨t,h',rfl,hin⟩ := ih n' (by omega) cs _ ht
        have h0 := hcell 0 (by omega)
        rw [Nat.zero_mul,add_zero,add_zero] at h0
        exact World.cell?_spot (show w.cell? a = some (.int .u8 t.k) from h0)
       have key : ∀ i,i < len → ∃ t : Tm,∃ b off,a = ⟨b,off,none⟩ ∧ TAt w.heap.size w b (off + i * 5) t := fun i hi => by
        have hi' := hall i hi
        rw [List.getElem?_eq_getElem (by omega)] at hi'
        obtain ⟨cs,hcs,ht⟩ := Option.bind_eq_some_iff.1 hi'
        obtain ⟨_,_,hcell⟩ := World.cells?_some hcs
        obtain ⟨t,h',rfl,hin⟩ := ih n' (by omega) cs _ ht
        have hs := hnone (by omega)
        obtain ⟨b,off,spot⟩ := a
        dsimp only at hs
        subst hs
        simp only [add_none] at hcell
        have h0 : w.cell? ⟨b,off + i * 5,none⟩ = some (.int .u8 t.k) := hcell 0 (by omega)
        exact ⟨t,b,off,rfl,World.block_lt_of_cell? w _ h0,h',⟨h0,hcell 1 (by omega),hcell 2 (by omega),hcell 3 (by omega),hcell 4 (by omega)⟩,hin⟩
       have key2 : ∃ ts : List Tm,ts.length = len ∧ ∀ k (hk : k < ts.length),∃ b off,a = ⟨b,off,none⟩ ∧ TAt w.heap.size w b (off + k * 5) ts[k] := by
        refine ⟨(List.range len).pmap (fun i hi => Classical.choose (key i hi)) (fun i hi => by simpa using hi),by simp,fun k hk => ?_⟩
        have hk' : k < len := by simpa using hk
        obtain ⟨b,off,ha,hl⟩ := Classical.choose_spec (key k hk')
        exact ⟨b,off,ha,by simpa using hl⟩
       obtain ⟨ts,rfl,hts⟩ := key2
       refine ⟨some a,cap,ts,he,RowIn.mk fun k hk => ?_,?_⟩
       ·obtain ⟨b,off,rfl,hl⟩ := hts k hk
        exact ⟨b,off,rfl,by simpa using hl⟩
       ·have : maxLen = 9223372036854775807 := rfl
        omega
     obtain ⟨tq0,tc,ts,ht4,hrin,htl⟩ := hts
     simp at hk hm hs hls ht4
     subst hk hm hs hls ht4
     refine ⟨.mk k m s ls ts,⟨lo,lc,tq0,tc⟩,rfl,Tm.In_iff.2 ⟨⟨?_,?_,?_,?_,?_,hlen,htl⟩,hrow,hlow,hrin,hroom⟩⟩
     ·simp [Lit.wf,IntKind.min,IntKind.max,IntKind.signed,IntKind.bits] at wk; exact wk.1
     ·simp [Lit.wf,IntKind.min,IntKind.max,IntKind.signed,IntKind.bits] at wk; exact wk.2
     ·simp [Lit.wf,IntKind.min,IntKind.max,IntKind.signed,IntKind.bits] at wm; exact wm.1
     ·simp [Lit.wf,IntKind.min,IntKind.max,IntKind.signed,IntKind.bits] at wm; exact wm.2
     ·exact hss
end
theorem Trm.open_arg {H : Type} {enc : TypeId × Value → H} {w : World} {base : Nat} {sp : Nat → Bool} {hd : Bool} {v : Value} {d : DataW H} {p : List MemPlace} (h : DataW.Trod enc Tryz.prog w base sp hd 25 v d p) :
 ∃ (t : Tm) (h : Hd),v = t.val h ∧ t.In w.heap.size w h := by
 obtain ⟨fuel,hf⟩ := h
 obtain ⟨t,h,hc,hin⟩ := open_term _ _ _ hf
 refine ⟨t,h,?_,hin⟩
 have hl : v.cells.toList.length = 5 := by rw [hc]; simp [Tm.vals]
 cases v with
 | agg cs =>
   have : cs = t.vals h := by
    have hcs : cs.toList = (t.vals h).toList := hc
    exact Array.toList_inj.1 hcs
   rw [this]; rfl
 | _ => simp [Value.cells] at hl
end Go.Proofs.YthkiedoijckjiaaGreat
