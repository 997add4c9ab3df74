/-
 A row of terms of the call's own,appended tq0 in a loop whose round calls what makes the terms; a row of levels likewise; a node of both.
-/
import Derived.Lib.Hide
import Derived.Test.YtmngddomnaaedaaGreatQB15
import Derived.Test.YtmngddomnaaedaaGreatQB6
import Derived.Test.YtmngddomnaaedaaGreatQB12
import Derived.Deep.RegionHeld3
import Derived.Test.YtmngddomnaaedaaGreatQB14
import Derived.Test.YtmngddomnaaedaaGreatQB2
import Derived.Test.YtmngddomnaaedaaGreatProg
import Derived.Great.Walk
import Derived.Laws.Rows
open Go.Lib (hid)
set_option maxRecDepth 100000
set_option maxHeartbeats 32000000
namespace Go.Proofs.YtmngddomnaaedaaGreat
open Go.RowKit Go.Shelf Lvl Trm
namespace Trm
theorem LRow.ranS {P:Nat→Prop} {w w':World} {ao:Option Addr} {ls:List Lv} (h:LRow w ao ls) (hr:RanS P w w') (hb:∀ x,ao=some x→x.block < w.heap.size∧¬ P x.block):LRow w' ao ls:=by
 refine ⟨fun k hk=>?_⟩
 obtain ⟨b,off,hao,ha⟩:=h.place k hk
 obtain ⟨hb1,hb2⟩:b < w.heap.size∧¬ P b:=hb _ hao
 exact ⟨b,off,hao,(hr.cell (p:=⟨b,_,none⟩) hb1 hb2).trans ha.1,(hr.cell (p:=⟨b,_,none⟩) hb1 hb2).trans ha.2.1,(hr.cell (p:=⟨b,_,none⟩) hb1 hb2).trans ha.2.2.1,(hr.cell (p:=⟨b,_,none⟩) hb1 hb2).trans ha.2.2.2.1,(hr.cell (p:=⟨b,_,none⟩) hb1 hb2).trans ha.2.2.2.2⟩
def RowG (B:Nat) (w1:World) (R:List Tm) (v i:Value) (wr:World):Prop :=
 ∃ (j:Nat) (ps:List (Tm × Hd)),i=.int .i64 j∧j≤R.length∧ps.length=j∧ps.map (·.1)=R.take j∧Below w1.heap.size w1 wr∧wr.ownsRow w1.heap.size 25 5 v ps.length (flat ps) ∧
   ∀ p ∈ ps,FirmS (fun q=>B≤q∧(q < w1.heap.size∨v.ownBlock=some q)) wr p.1 p.2
theorem RowG.start (B:Nat) (w1:World) (R:List Tm):RowG B w1 R (.slice none 0 0) (.int .i64 0) w1 :=
 ⟨0,[],rfl,by omega,rfl,rfl,Below.refl _ _,⟨rfl,Or.inl ⟨rfl,rfl⟩⟩,fun p hp=>by simp at hp⟩
theorem RowG.step {B:Nat} {w1:World} {R:List Tm} {v i':Value} {wr w4 w5:World} {j g cap n':Nat} {ps:List (Tm × Hd)} {y:Tm} {hy:Hd} {ob:Obj} {L:Nat} (hRl:R.length=L) (hRy:R[j]?=some y) (hlt:j < L) (hpl:ps.length=j) (hmap:ps.map (·.1)=R.take j)
 (hbel:Below w1.heap.size w1 wr) (hown:wr.ownsRow w1.heap.size 25 5 v ps.length (flat ps))
 (hf:∀ p ∈ ps,FirmS (fun q=>B≤q∧(q < w1.heap.size∨v.ownBlock=some q)) wr p.1 p.2) (hb4:Below wr.heap.size wr w4) (hfy:FirmS (fun q=>B≤q∧q < wr.heap.size) w4 y hy) (hBw:B≤w1.heap.size)
 (hn':n'=ps.length + 1) (hown5:w5.ownsRow w1.heap.size 25 5 (.slice (some ⟨g,0,none⟩) n' cap) n' (flat ps ++ (y.vals hy).toList)) (hgrow:(w4.alloc ob).grownBy w5 v.ownBlock) (hat:v.ownBlock=some g∨g=w4.heap.size + 1) (hi:i'=.int .i64 ((j + 1:Nat):Int)) :
 RowG B w1 R (.slice (some ⟨g,0,none⟩) n' cap) i' w5:=by
 subst hn'
 have h1:=hb4.alloc hb4.size ob
 have hz0:=hbel.size
 have hz1:wr.heap.size≤w4.heap.size:=hb4.size
 have hz5:w4.heap.size + 1≤w5.heap.size:=by have:=hgrow.size; simpa using this
 have h6:Below w1.heap.size wr w5:=by
  refine ⟨hgrow.os.trans h1.os,hgrow.tape.trans h1.tape,hgrow.output.trans h1.output,Nat.le_trans h1.size hgrow.size,fun k hk=>?_⟩
  have hk2:k < wr.heap.size:=by omega
  rw [hgrow.block k (Nat.lt_of_lt_of_le hk2 h1.size) (fun he=>by have:=own_low hown he.symm; omega),h1.block k hk2]
 refine ⟨j + 1,ps ++ [(y,hy)],hi,by omega,by simp [hpl],?_,hbel.trans h6,by rw [flat_snoc,List.length_append]; exact hown5,?_⟩
 ·rw [List.map_append,hmap,List.take_add_one,hRy]; rfl
 ·intro p hp w' hr
  rcases List.mem_append.1 hp with hp | hp
  ·refine hf p hp w' ⟨hr.os.trans (h6.os),hr.tape.trans h6.tape,hr.output.trans h6.output,Nat.le_trans h6.size hr.size,fun k hk hn=>?_⟩
   have hn5:w5.heap[k]?=wr.heap[k]?:=by
    rw [hgrow.block k (by simp; omega) (fun he=>hn ⟨by have:=own_low hown he.symm; omega,Or.inr he.symm⟩),h1.block k hk]
   rw [← hn5]
   refine hr.block k (Nat.lt_of_lt_of_le hk h6.size) ?_
   rintro ⟨hq1,hq2 | hq2⟩
   ·exact hn ⟨hq1,Or.inl hq2⟩
   ·have hkg:g=k:=by simpa [Value.ownBlock] using hq2
    subst hkg
    rcases hat with hat | hat
    ·exact hn ⟨hq1,Or.inr hat⟩
    ·omega
  ·simp at hp
   subst hp
   refine hfy w' ⟨hr.os.trans (hgrow.os),hr.tape.trans hgrow.tape,hr.output.trans hgrow.output,Nat.le_trans (by omega) hr.size,fun k hk hn=>?_⟩
   have hn5:w5.heap[k]?=w4.heap[k]?:=by
    rw [hgrow.block k (by simp; omega) (fun he=>by have:=own_low hown he.symm; exact hn ⟨by omega,by omega⟩)]
    exact (below_one w4 ob).block k hk
   rw [← hn5]
   refine hr.block k (by omega) ?_
   rintro ⟨hq1,hq2 | hq2⟩
   ·exact hn ⟨hq1,by omega⟩
   ·have hkg:g=k:=by simpa [Value.ownBlock] using hq2
    subst hkg
    rcases hat with hat | hat
    ·have:=own_low hown hat
     exact hn ⟨hq1,by omega⟩
    ·omega
theorem RowG.below {w1 wr w4 w5:World} {n:Nat} {v:Value} {xs:List Value} {o:Obj} (hb4:Below wr.heap.size wr w4) (hown:wr.ownsRow w1.heap.size 25 5 v n xs) (hg:(w4.alloc o).grownBy w5 v.ownBlock) (h2:w1.heap.size≤wr.heap.size):Below w1.heap.size wr w5:=by
 have h1:=hb4.alloc hb4.size o
 refine ⟨hg.os.trans h1.os,hg.tape.trans h1.tape,hg.output.trans h1.output,Nat.le_trans h1.size hg.size,fun k hk=>?_⟩
 have hk2:k < wr.heap.size:=by omega
 rw [hg.block k (Nat.lt_of_lt_of_le hk2 h1.size) (fun he=>by have:=own_low hown he.symm; omega),h1.block k hk2]
def RowL (w1:World) (R:List Lv) (v i:Value) (wr:World):Prop :=
 ∃ j:Nat,i=.int .i64 j∧j≤R.length∧Below w1.heap.size w1 wr∧wr.ownsRow w1.heap.size 35 5 v j (flatL (R.take j))
theorem RowL.start (w1:World) (R:List Lv):RowL w1 R (.slice none 0 0) (.int .i64 0) w1:=⟨0,rfl,by omega,Below.refl _ _,⟨rfl,Or.inl ⟨rfl,rfl⟩⟩⟩
theorem flatL_snoc (ls:List Lv) (x:Lv):flatL (ls ++ [x])=flatL ls ++ x.list5:=by simp [flatL]
theorem RowL.step {w1:World} {R:List Lv} {v i':Value} {wr w4 w5:World} {j g cap n':Nat} {y:Lv} {ob:Obj} (hRy:R[j]?=some y) (hlt:j < R.length) (hbel:Below w1.heap.size w1 wr) (hown:wr.ownsRow w1.heap.size 35 5 v j (flatL (R.take j)))
 (hb4:Below wr.heap.size wr w4) (hn':n'=j + 1) (hown5:w5.ownsRow w1.heap.size 35 5 (.slice (some ⟨g,0,none⟩) n' cap) n' (flatL (R.take j) ++ y.list5)) (hgrow:(w4.alloc ob).grownBy w5 v.ownBlock) (hi:i'=.int .i64 ((j + 1:Nat):Int)) :
 RowL w1 R (.slice (some ⟨g,0,none⟩) n' cap) i' w5:=by
 subst hn'
 have h1:=hb4.alloc hb4.size ob
 have hz0:=hbel.size
 refine ⟨j + 1,hi,by omega,hbel.trans ⟨hgrow.os.trans h1.os,hgrow.tape.trans h1.tape,hgrow.output.trans h1.output,Nat.le_trans h1.size hgrow.size,fun k hk=>?_⟩,by rw [List.take_add_one,hRy]; exact (flatL_snoc _ _) ▸ hown5⟩
 have hk2:k < wr.heap.size:=by omega
 rw [hgrow.block k (Nat.lt_of_lt_of_le hk2 h1.size) (fun he=>by have:=own_low hown he.symm; omega),h1.block k hk2]
end Trm
end Go.Proofs.YtmngddomnaaedaaGreat
namespace Go.Proofs.YtmngddomnaaedaaGreat
open Go.RowKit Go.Shelf Lvl Trm
namespace Lvl
end Lvl
end Go.Proofs.YtmngddomnaaedaaGreat
namespace Go.Proofs.YtmngddomnaaedaaGreat
namespace Lvl
theorem ans_form {a b:Lv} (h:a.form=b.form):ans a=ans b:=by
 unfold ans; rw [h]
theorem inst_own {l:Lv} (hl:l.ok):inst l own.list=(l,0):=by
 have e:(instO l own).form=l.form:=same_form (instO_fine hl own_ok) hl.fine fun n hn=>by rw [ev_instO hl own_ok,ev_own hn]
 rw [inst_row hl own_ok,ans,e,ok_formed hl,if_pos ((within_iff l).2 ⟨hl.1,hl.2.1,hl.2.2.1,hl.2.2.2.1,hl.2.2.2.2.1⟩)]
end Lvl
end Go.Proofs.YtmngddomnaaedaaGreat
namespace Go.Proofs.YtmngddomnaaedaaGreat
open Go.RowKit Go.Shelf Lvl Trm
namespace Lvl
theorem form_may {l:Lv} (h:l.fine):l.form.may=l.form.within:=by
 cases hw:l.form.within
 ·unfold Lv.may; rw [hw]; rfl
 ·exact (may_iff _).2 (formed_ok h hw)
end Lvl
end Go.Proofs.YtmngddomnaaedaaGreat
namespace Go.Proofs.YtmngddomnaaedaaGreat
open Go.RowKit Go.Shelf Lvl Trm
namespace Lvl
def ISt (ls:List Lv) (l:Lv) (k:Nat) (out:Lv):Prop:=∃ o,instAll ls (number l.c) (l.upto k)=some o∧o.fine∧out.fine∧∀ n:Four,n.pos→ev out n=ev o n
theorem ISt.start (ls:List Lv) {l:Lv} (hl:l.ok):ISt ls l 0 (number l.c) :=
 ⟨number l.c,rfl,number_fine hl.1.1,number_fine hl.1.1,fun _ _=>rfl⟩
theorem ISt.step {ls:List Lv} {l out:Lv} {k:Nat} (h:ISt ls l k out) (hk:k < 4) (hp:0≤l.at_ k) (hlt:k < ls.length) (hb:(ls[k]).fine):ISt ls l (k + 1) (out.join ((ls[k]).plus (l.at_ k)).form).form:=by
 obtain ⟨o,h1,h2,h3,h4⟩:=h
 have f1:=plus_fine hb (l.at_ k) hp
 have f2:=join_fine h3 (form_fine f1)
 refine ⟨o.join ((ls[k]).plus (l.at_ k)),?_,join_fine h2 f1,form_fine f2,fun n hn=>?_⟩
 ·rw [(l.upto_mem k hk (by omega)).2.2,instAll_snoc,h1]
  unfold instStep
  dsimp only
  rw [dif_pos (by simpa using hlt)]
  simp
 ·rw [ev_form f2 hn,ev_join h3 (form_fine f1),ev_form f1 hn,ev_join h2 f1,h4 n hn]
theorem ISt.done {ls:List Lv} {l out:Lv} (h:ISt ls l 4 out) (hm:l.may=true) (ha:ls.all Lv.may=true):inst l ls=ans out∧out.fine:=by
 obtain ⟨o,h1,h2,h3,h4⟩:=h
 have h5:instAll ls (number l.c) l.ps=some o:=h1
 refine ⟨?_,h3⟩
 unfold inst
 rw [if_pos ⟨hm,ha⟩,h5]
 exact (ans_form (same_form h3 h2 h4)).symm
end Lvl
end Go.Proofs.YtmngddomnaaedaaGreat
namespace Go.Proofs.YtmngddomnaaedaaGreat
open Go.RowKit Go.Shelf Lvl Trm
namespace Trm
def errL (L:List Lv):List Lv→Int
 | []=>0
 | l :: r=>if (inst l L).2=0 then errL L r else (inst l L).2
mutual
def Tm.lerr (L:List Lv):Tm→Int
 | .mk _ _ _ ls ts=>if errL L ls=0 then lerrL L ts else errL L ls
def lerrL (L:List Lv):List Tm→Int
 | []=>0
 | t :: r=>if t.lerr L=0 then lerrL L r else t.lerr L
end
def levB (L:List Lv) (t:Tm):Tm × Int:=if t.lerr L=0 then (t.lmap (fL L),0) else (zeroT,t.lerr L)
end Trm
end Go.Proofs.YtmngddomnaaedaaGreat
namespace Go.Proofs.YtmngddomnaaedaaGreat
open Go.RowKit Go.Shelf Lvl Trm
namespace Trm
mutual
theorem thr_err {L:List Lv}:∀ (t:Tm) (y:List Lv) (d u:Int),OkMay t d→LGood L y→(t.thr lfLev y u).2.1=t.lerr L
 | .mk k n s ls ts,y,d,u,ho,hy=>by
   rw [Tm.thr,Tm.lerr]
   by_cases hts:ts.isEmpty=true
   ·rw [if_pos hts]
    have h0:ts=[]:=List.isEmpty_iff.1 hts
    subst h0
    show (levL ls y).2.1=_
    rw [levL_err ls y hy,lerrL]
    split
    ·assumption
    ·rfl
   ·rw [if_neg hts]
    have hls:ls=[]:=node_inner ho.node.1 (show ts ≠ [] by simpa using hts)
    subst hls
    rw [if_pos (show errL L []=0 from rfl)]
    unfold fin
    exact thrL_err k ts y (d + 1) u (fun x hx=>ho.down x hx) hy
theorem thrL_err {L:List Lv} (k:Int):∀ (ts:List Tm) (y:List Lv) (d u:Int),(∀ x ∈ ts,OkMay x d)→LGood L y→(thrL lfLev k ts y u).2.1=lerrL L ts
 | [],y,d,u,_,hy=>by rw [thrL,lerrL]
 | t :: r,y,d,u,ho,hy=>by
   have h1:=thr_err (L:=L) t y d (und k r.isEmpty u) (ho t (by simp)) hy
   rw [thrL,lerrL]
   by_cases he:(t.thr lfLev y (und k r.isEmpty u)).2.1=0
   ·rw [if_pos he,if_pos (by rw [← h1]; exact he)]
    exact thrL_err k r _ d _ (fun x hx=>ho x (by simp [hx])) (((thr_lev (L:=L) t y d (und k r.isEmpty u) (ho t (by simp)) hy).2 he).1)
   ·rw [if_neg he,if_neg (by rw [← h1]; exact he)]
    exact h1
theorem levL_err {L:List Lv}:∀ (ls y:List Lv),LGood L y→(levL ls y).2.1=errL L ls
 | [],y,_=>by rw [levL]; rfl
 | l :: r,y,hy=>by
   rw [levL,errL]
   have e:=hy.inst l
   by_cases ho:(inst l y).2=0
   ·rw [if_pos ho,if_pos (by rw [← e]; exact ho)]
    exact levL_err r _ (hy.next ho)
   ·rw [if_neg ho,if_neg (by rw [← e]; exact ho),e]
end
end Trm
end Go.Proofs.YtmngddomnaaedaaGreat
namespace Go.Proofs.YtmngddomnaaedaaGreat
open Go.Great
variable {P:Program}
theorem wp_bslice {o:Oper} {a:Act} {w:World} {K:Act→World→Prop} {Q:Exit→Act→World→Prop} (t e:TypeId) (len:Nat) (parts:Array (Nat × Operand)) (ho:o.op=.buildSlice t len parts) (dst:Option Tmp) (hdst:o.dst=dst)
 (cells:Array Value) (hu:P.underlying t=some (.slice e)) (hf:P.builtSlice e len (parts.map fun (i,x)=>(i,a.eval x)).toList=some cells)
 (h:K (a.put dst (.slice (some ⟨w.heap.size,0,none⟩) len len)) (w.alloc (.cells cells e))):o.wp P a w K Q:=by
 subst hdst
 unfold Program.builtSlice at hf
 split at hf
 ·rename_i ie hie
  split at hf
  ·rename_i z hz
   split at hf
   ·cases hf
   ·rename_i hc
    exact wp_buildSlice t e len parts ho cells ie z hu hie hz (fun h'=>hc (Or.inl h')) (fun h'=>hc (Or.inr h')) hf h
  ·cases hf
 ·cases hf
theorem wpList_yes {ops:Array Oper} {rest:List Oper} {o:Oper} {a:Act} {w:World} {Q:Exit→Act→World→Prop} (hw:Region.wanted o (yielded ops a.tmps)=true)
 (h:∀ K:Act→World→Prop,(∀ a w,wpList P ops Q rest a w→K a w)→o.wp P a w K Q):wpList P ops Q (o :: rest) a w :=
 wpList_step fun K hK=>by rw [if_pos hw]; exact h K hK
theorem wpList_bsliceG {ops:Array Oper} {rest:List Oper} {o:Oper} {a:Act} {w:World} {Q:Exit→Act→World→Prop} (hw:Region.wanted o (yielded ops a.tmps)=true) (t e:TypeId) (len:Nat) (parts:Array (Nat × Operand)) (ho:o.op=.buildSlice t len parts) (dst:Option Tmp) (hdst:o.dst=dst)
 (cells:Array Value) (hu:P.underlying t=some (.slice e)) (hf:P.builtSlice e len (parts.map fun (i,x)=>(i,a.eval x)).toList=some cells)
 (h:wpList P ops Q rest (a.put dst (.slice (some ⟨w.heap.size,0,none⟩) len len)) (w.alloc (.cells cells e))):wpList P ops Q (o :: rest) a w :=
 wpList_yes hw fun _ hK=>wp_bslice t e len parts ho dst hdst cells hu hf (hK _ _ h)
end Go.Proofs.YtmngddomnaaedaaGreat
