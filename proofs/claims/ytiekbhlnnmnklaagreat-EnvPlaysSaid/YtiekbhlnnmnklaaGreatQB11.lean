/-
 A row of terms of the call's own,appended to in a loop whose round calls what makes the terms; a row of levels likewise; a node of both.
-/
import Derived.Lib.Hide
import Derived.Test.YtiekbhlnnmnklaaGreatQB9
import Derived.Test.YtiekbhlnnmnklaaGreatQB10
open Go.Lib (hid)
set_option maxRecDepth 100000
set_option maxHeartbeats 32000000
namespace Go.Proofs.YtiekbhlnnmnklaaGreat
open Go.RowKit Go.Shelf Lvl Trm
namespace Trm
theorem LRow.ranS {P : Nat → Prop} {w w' : World} {ao : Option Addr} {ls : List Lv} (h : LRow w ao ls) (hr : RanS P w w') (hb : ∀ x,ao = some x → x.block < w.heap.size ∧ ¬ P x.block) : LRow w' ao ls := by
 refine ⟨fun k hk => ?_⟩
 obtain ⟨b,off,hao,ha⟩ := h.place k hk
 obtain ⟨hb1,hb2⟩ : b < w.heap.size ∧ ¬ P b := hb _ hao
 exact ⟨b,off,hao,(hr.cell (p := ⟨b,_,none⟩) hb1 hb2).trans ha.1,(hr.cell (p := ⟨b,_,none⟩) hb1 hb2).trans ha.2.1,(hr.cell (p := ⟨b,_,none⟩) hb1 hb2).trans ha.2.2.1,(hr.cell (p := ⟨b,_,none⟩) hb1 hb2).trans ha.2.2.2.1,(hr.cell (p := ⟨b,_,none⟩) hb1 hb2).trans ha.2.2.2.2⟩
def RowG (B : Nat) (w1 : World) (R : List Tm) (v i : Value) (wr : World) : Prop :=
 ∃ (j : Nat) (ps : List (Tm × Hd)),i = .int .i64 j ∧ j ≤ R.length ∧ ps.length = j ∧ ps.map (·.1) = R.take j ∧ Below w1.heap.size w1 wr ∧ wr.ownsRow w1.heap.size 27 5 v ps.length (flat ps) ∧
   ∀ p ∈ ps,FirmS (fun q => B ≤ q ∧ (q < w1.heap.size ∨ v.ownBlock = some q)) wr p.1 p.2
theorem RowG.start (B : Nat) (w1 : World) (R : List Tm) : RowG B w1 R (.slice none 0 0) (.int .i64 0) w1 :=
 ⟨0,[],rfl,by omega,rfl,rfl,Below.refl _ _,⟨rfl,Or.inl ⟨rfl,rfl⟩⟩,fun p hp => by simp at hp⟩
theorem RowG.step {B : Nat} {w1 : World} {R : List Tm} {v i' : Value} {wr w4 w5 : World} {j g cap n' : Nat} {ps : List (Tm × Hd)} {y : Tm} {hy : Hd} {ob : Obj} {L : Nat} (hRl : R.length = L) (hRy : R[j]? = some y) (hlt : j < L) (hpl : ps.length = j) (hmap : ps.map (·.1) = R.take j)
 (hbel : Below w1.heap.size w1 wr) (hown : wr.ownsRow w1.heap.size 27 5 v ps.length (flat ps))
 (hf : ∀ p ∈ ps,FirmS (fun q => B ≤ q ∧ (q < w1.heap.size ∨ v.ownBlock = some q)) wr p.1 p.2) (hb4 : Below wr.heap.size wr w4) (hfy : FirmS (fun q => B ≤ q ∧ q < wr.heap.size) w4 y hy) (hBw : B ≤ w1.heap.size)
 (hn' : n' = ps.length + 1) (hown5 : w5.ownsRow w1.heap.size 27 5 (.slice (some ⟨g,0,none⟩) n' cap) n' (flat ps ++ (y.vals hy).toList)) (hgrow : (w4.alloc ob).grownBy w5 v.ownBlock) (hat : v.ownBlock = some g ∨ g = w4.heap.size + 1) (hi : i' = .int .i64 ((j + 1 : Nat) : Int)) :
 RowG B w1 R (.slice (some ⟨g,0,none⟩) n' cap) i' w5 := by
 subst hn'
 have h1 := hb4.alloc hb4.size ob
 have hz0 := hbel.size
 have hz1 : wr.heap.size ≤ w4.heap.size := hb4.size
 have hz5 : w4.heap.size + 1 ≤ w5.heap.size := by have := hgrow.size; simpa using this
 have h6 : Below w1.heap.size wr w5 := by
  refine ⟨hgrow.os.trans h1.os,hgrow.tape.trans h1.tape,hgrow.output.trans h1.output,Nat.le_trans h1.size hgrow.size,fun k hk => ?_⟩
  have hk2 : k < wr.heap.size := by omega
  rw [hgrow.block k (Nat.lt_of_lt_of_le hk2 h1.size) (fun he => by have := own_low hown he.symm; omega),h1.block k hk2]
 refine ⟨j + 1,ps ++ [(y,hy)],hi,by omega,by simp [hpl],?_,hbel.trans h6,by rw [flat_snoc,List.length_append]; exact hown5,?_⟩
 ·rw [List.map_append,hmap,List.take_add_one,hRy]; rfl
 ·intro p hp w' hr
  rcases List.mem_append.1 hp with hp | hp
  ·refine hf p hp w' ⟨hr.os.trans (h6.os),hr.tape.trans h6.tape,hr.output.trans h6.output,Nat.le_trans h6.size hr.size,fun k hk hn => ?_⟩
   have hn5 : w5.heap[k]? = wr.heap[k]? := by
    rw [hgrow.block k (by simp; omega) (fun he => hn ⟨by have := own_low hown he.symm; omega,Or.inr he.symm⟩),h1.block k hk]
   rw [← hn5]
   refine hr.block k (Nat.lt_of_lt_of_le hk h6.size) ?_
   rintro ⟨hq1,hq2 | hq2⟩
   ·exact hn ⟨hq1,Or.inl hq2⟩
   ·have hkg : g = k := by simpa [Value.ownBlock] using hq2
    subst hkg
    rcases hat with hat | hat
    ·exact hn ⟨hq1,Or.inr hat⟩
    ·omega
  ·simp at hp
   subst hp
   refine hfy w' ⟨hr.os.trans (hgrow.os),hr.tape.trans hgrow.tape,hr.output.trans hgrow.output,Nat.le_trans (by omega) hr.size,fun k hk hn => ?_⟩
   have hn5 : w5.heap[k]? = w4.heap[k]? := by
    rw [hgrow.block k (by simp; omega) (fun he => by have := own_low hown he.symm; exact hn ⟨by omega,by omega⟩)]
    exact (below_one w4 ob).block k hk
   rw [← hn5]
   refine hr.block k (by omega) ?_
   rintro ⟨hq1,hq2 | hq2⟩
   ·exact hn ⟨hq1,by omega⟩
   ·have hkg : g = k := by simpa [Value.ownBlock] using hq2
    subst hkg
    rcases hat with hat | hat
    ·have := own_low hown hat
     exact hn ⟨hq1,by omega⟩
    ·omega
theorem RowG.below {w1 wr w4 w5 : World} {n : Nat} {v : Value} {xs : List Value} {o : Obj} (hb4 : Below wr.heap.size wr w4) (hown : wr.ownsRow w1.heap.size 27 5 v n xs) (hg : (w4.alloc o).grownBy w5 v.ownBlock) (h2 : w1.heap.size ≤ wr.heap.size) : Below w1.heap.size wr w5 := by
 have h1 := hb4.alloc hb4.size o
 refine ⟨hg.os.trans h1.os,hg.tape.trans h1.tape,hg.output.trans h1.output,Nat.le_trans h1.size hg.size,fun k hk => ?_⟩
 have hk2 : k < wr.heap.size := by omega
 rw [hg.block k (Nat.lt_of_lt_of_le hk2 h1.size) (fun he => by have := own_low hown he.symm; omega),h1.block k hk2]
theorem firm_nodeG {P Q : Nat → Prop} {base : Nat} {w : World} {v : Value} {ps : List (Tm × Hd)} {k n : Int} {s : ByteArray} {ls : List Lv} {lo : Option Addr} {lc : Nat}
 (hown : w.ownsRow base 27 5 v ps.length (flat ps)) (hk0 : 0 ≤ k) (hk1 : k ≤ 255) (hn0 : -9223372036854775808 ≤ n) (hn1 : n ≤ 9223372036854775807) (hs : s.size ≤ 9223372036854775807) (hl : ls.length ≤ 9223372036854775807)
 (hls : LRow w lo ls) (hlow : ∀ x,lo = some x → x.block < w.heap.size ∧ ¬ P x.block) (hPb : ∀ q,P q → q < base) (hPQ : ∀ q,P q → Q q) (hf : ∀ p ∈ ps,FirmS Q w p.1 p.2) (hn : ps.length ≤ 1000000) :
 ∃ to tc,v = .slice to ps.length tc ∧ FirmS P w (.mk k n s ls (ps.map (·.1))) ⟨lo,lc,to,tc⟩ := by
 have hL : ∀ w',RanS P w w' → LRow w' lo ls ∧ Low w'.heap.size lo ls.length := fun w' hr => ⟨LRow.ranS hls hr hlow,fun _ x hx => by have := (hlow x hx).1; have := hr.size; omega⟩
 obtain ⟨hfl,⟨rfl,hn0'⟩ | ⟨g,cap,cur,rfl,hbg,hgb,_⟩⟩ := hown
 ·have hps := List.eq_nil_of_length_eq_zero hn0'
  subst hps
  exact ⟨none,0,rfl,fun w' hr => Tm.In_iff.2 ⟨⟨hk0,hk1,hn0,hn1,hs,hl,by simp [Tm.ts]⟩,(hL w' hr).1,(hL w' hr).2,RowIn.mk fun i hi => by simp [Tm.ts] at hi⟩⟩
 ·have hown : w.ownsRow base 27 5 (.slice (some ⟨g,0,none⟩) ps.length cap) ps.length (flat ps) := ⟨hfl,Or.inr ⟨g,cap,cur,rfl,hbg,hgb,‹_›⟩⟩
  obtain ⟨hg2,_,htb⟩ := block_of_own hown
  have hgl := htb.lt
  refine ⟨some ⟨g,0,none⟩,cap,rfl,fun w' hr => Tm.In_iff.2 ⟨⟨hk0,hk1,hn0,hn1,hs,hl,by simp [Tm.ts]; omega⟩,(hL w' hr).1,(hL w' hr).2,?_⟩⟩
  exact TBlock.row (htb.ranS hr (fun hp => by have := hPb _ hp; omega)) (by have := hr.size; omega) (fun p hp => (hf p hp).less (fun q _ => hPQ q) w' hr)
def RowL (w1 : World) (R : List Lv) (v i : Value) (wr : World) : Prop :=
 ∃ j : Nat,i = .int .i64 j ∧ j ≤ R.length ∧ Below w1.heap.size w1 wr ∧ wr.ownsRow w1.heap.size 61 5 v j (flatL (R.take j))
theorem RowL.start (w1 : World) (R : List Lv) : RowL w1 R (.slice none 0 0) (.int .i64 0) w1 := ⟨0,rfl,by omega,Below.refl _ _,⟨rfl,Or.inl ⟨rfl,rfl⟩⟩⟩
theorem flatL_snoc (ls : List Lv) (x : Lv) : flatL (ls ++ [x]) = flatL ls ++ x.list5 := by simp [flatL]
theorem RowL.step {w1 : World} {R : List Lv} {v i' : Value} {wr w4 w5 : World} {j g cap n' : Nat} {y : Lv} {ob : Obj} (hRy : R[j]? = some y) (hlt : j < R.length) (hbel : Below w1.heap.size w1 wr) (hown : wr.ownsRow w1.heap.size 61 5 v j (flatL (R.take j)))
 (hb4 : Below wr.heap.size wr w4) (hn' : n' = j + 1) (hown5 : w5.ownsRow w1.heap.size 61 5 (.slice (some ⟨g,0,none⟩) n' cap) n' (flatL (R.take j) ++ y.list5)) (hgrow : (w4.alloc ob).grownBy w5 v.ownBlock) (hi : i' = .int .i64 ((j + 1 : Nat) : Int)) :
 RowL w1 R (.slice (some ⟨g,0,none⟩) n' cap) i' w5 := by
 subst hn'
 have h1 := hb4.alloc hb4.size ob
 have hz0 := hbel.size
 refine ⟨j + 1,hi,by omega,hbel.trans ⟨hgrow.os.trans h1.os,hgrow.tape.trans h1.tape,hgrow.output.trans h1.output,Nat.le_trans h1.size hgrow.size,fun k hk => ?_⟩,by rw [List.take_add_one,hRy]; exact (flatL_snoc _ _) ▸ hown5⟩
 have hk2 : k < wr.heap.size := by omega
 rw [hgrow.block k (Nat.lt_of_lt_of_le hk2 h1.size) (fun he => by have := own_low hown he.symm; omega),h1.block k hk2]
end Trm
end Go.Proofs.YtiekbhlnnmnklaaGreat
