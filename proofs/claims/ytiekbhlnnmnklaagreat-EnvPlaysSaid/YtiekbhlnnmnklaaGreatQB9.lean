/-
 battenref03.Same.
-/
import Derived.Lib.Hide
import Derived.Test.YtiekbhlnnmnklaaGreatQB5
import Derived.Deep.RegionHeld3
import Derived.Test.YtiekbhlnnmnklaaGreatQB6
import Derived.Laws.EntriesVeiled
import Derived.Test.YtiekbhlnnmnklaaGreatQB8
import Derived.Test.YtiekbhlnnmnklaaGreatQB3
import Derived.Deep.AppendLies
open Go.Lib (hid)
set_option maxRecDepth 100000
set_option maxHeartbeats 32000000
namespace Go.Proofs.YtiekbhlnnmnklaaGreat
open Go.RowKit Go.Shelf Lvl Trm
noncomputable def Trm.same (a b : Tm) : Bool := @decide (a = b) (Classical.propDecidable _)
theorem Trm.same_iff {a b : Tm} : same a b = true ↔ a = b := by unfold same; simp
theorem Trm.same_yes {a b : Tm} (h : a = b) : true = same a b := (same_iff.2 h).symm
theorem Trm.same_no {a b : Tm} (h : ¬ a = b) : false = same a b := by
 cases hs : same a b
 ·rfl
 ·exact absurd (same_iff.1 hs) h
theorem Trm.Tm.ext {a b : Tm} (hk : a.k = b.k) (hn : a.n = b.n) (hs : a.s = b.s) (hl : a.ls = b.ls) (ht : a.ts = b.ts) : a = b := by
 rw [a.eta,b.eta,hk,hn,hs,hl,ht]
theorem Trm.take_same {α : Type} {l m : List α} {k : Nat} (hl : k < l.length) (hm : k < m.length) (h : l.take k = m.take k) (he : l[k] = m[k]) : l.take (k + 1) = m.take (k + 1) := by
 rw [List.take_succ_eq_append_getElem hl,List.take_succ_eq_append_getElem hm,h,he]
theorem Trm.all_same {α : Type} {l m : List α} {k : Nat} (hlm : l.length = m.length) (hk : l.length ≤ k) (h : l.take k = m.take k) : l = m := by
 rwa [List.take_of_length_le hk,List.take_of_length_le (by omega)] at h
theorem Trm.eq_self (a0 a1 a2 a3 : Int) (w : World) : (Op.equalIn 9999 59 (.agg #[.int .i64 a0,.int .i64 a1,.int .i64 a2,.int .i64 a3]) (.agg #[.int .i64 a0,.int .i64 a1,.int .i64 a2,.int .i64 a3])).run Tryz.prog w = .ok true w := by
 refine (eq_arr 9997 _ _ _ _ _ _ _ _ w).trans ?_
 simp
structure Trm.Kept2 (w wr : World) (o o' : Obj) : Prop where
 bel : Below w.heap.size w wr
 box : wr.heap[w.heap.size]? = some o
 box' : wr.heap[w.heap.size + 1]? = some o'
theorem Trm.Kept2.start (w : World) (o o' : Obj) : Kept2 w ((w.alloc o).alloc o') o o' := ⟨below_two _ _ _,new1of2 _ _ _,new2 _ _ _⟩
theorem Trm.Kept2.step {w wr w1 : World} {o o' : Obj} (h : Kept2 w wr o o') (b : Below wr.heap.size wr w1) : Kept2 w w1 o o' := ⟨h.bel.trans (b.mono h.bel.size),keep b h.box,keep b h.box'⟩
theorem Trm.Kept2.drewN {w wr : World} {o o' : Obj} (h : Kept2 w wr o o') (n : Nat) : Kept2 w (wr.drewN n) o o' := by
 refine h.step ⟨?_,?_,?_,?_,?_⟩ <;> simp [World.drewN]
def Trm.LsRel (w : World) (o o' : Obj) (ls ls' : List Lv) (i : Value) (wr : World) : Prop :=
 ∃ k : Nat,i = .int .i64 k ∧ k ≤ ls.length ∧ ls.take k = ls'.take k ∧ Kept2 w wr o o'
def Trm.TsRel (w : World) (o o' : Obj) (ls ls' : List Tm) (i : Value) (wr : World) : Prop :=
 ∃ k : Nat,i = .int .i64 k ∧ k ≤ ls.length ∧ ls.take k = ls'.take k ∧ Kept2 w wr o o'
theorem RefSame_any (a : Tm) : ∀ (b : Tm) (h h' : Hd) (w : World),a.In w.heap.size w h → b.In w.heap.size w h' →
 Calls Tryz.prog 29 #[a.val h,b.val h'] w fun e w' => e = .returned (.bool (same a b)) ∧ Below w.heap.size w w' := by
 induction a using Tm.ind with
 | h a ih =>
   intro b h h' w hin hin'
   have HIH := hid ih
   clear ih
   have hfit := hin.fit
   have hls := hfit.ls
   have hts := hfit.ts
   have hfit' := hin'.fit
   have hls' := hfit'.ls
   have hts' := hfit'.ts
   clear hfit hfit'
   have HIN := hid hin
   have HIN' := hid hin'
   clear hin hin'
   obtain ⟨G,hG⟩ : ∃ G,G = same a b := ⟨_,rfl⟩
   rw [← hG]
   have HG := hid hG
   clear hG
   have HN : Hid (¬ a = b → false = G) := hid (fun hn => by rw [HG.out]; exact same_no hn)
   by_cases h1 : a.k = b.k
   ·by_cases h2 : a.n = b.n
    ·by_cases h3 : a.s = b.s
     ·by_cases h4 : a.ls.length = b.ls.length
      ·by_cases h5 : a.ts.length = b.ts.length
       ·unfold Tm.val Tm.vals
        have H1 := hid h1
        have H2 := hid h2
        have H3 := hid h3
        have H4 := hid h4
        have H5 := hid h5
        rw [← h1,← h2,← h3,← h4,← h5]
        have HB : Hid (Tm.box b h' = .cells #[.int .u8 a.k,.int .i64 a.n,.string a.s,.slice h'.lo a.ls.length h'.lc,.slice h'.to a.ts.length h'.tc] 27) := hid (by rw [Tm.box,Tm.vals,← h1,← h2,← h3,← h4,← h5])
        clear h1 h2 h3 h4 h5
        go_enter Tryz.func29,Tryz.ntmps29
        go_wp2_with fail
        go_loopw [5] (fun i wr => LsRel w (a.box h) (b.box h') a.ls b.ls i wr) (fun i _ => a.ls.length - (intOf i).toNat)
        case atStart => exact ⟨0,rfl,by omega,rfl,by rw [HB.out]; exact Kept2.start _ _ _⟩
        case round =>
         obtain ⟨k,rfl,hk,htk,hkept⟩ := hrel
         have HK := hid hkept
         have HT := hid htk
         clear hkept htk
         obtain ⟨c0,c1,c2,c3,c4⟩ := Tm.cells HK.out.box
         have hbox' := HK.out.box'
         obtain ⟨d0,d1,d2,d3,d4⟩ := Tm.cells hbox'
         rw [← H4.out] at d3
         rw [← H5.out] at d4
         clear hbox' c0 c1 c2 d0 d1 d2
         by_cases hlt : k < a.ls.length
         ·have hlt' : k < b.ls.length := by have := H4.out; omega
          obtain ⟨b1,off1,hao1,l0,l1,l2,l3,l4⟩ := (Trm.LRow.low HIN.out.levels (Tm.In_iff.1 HIN.out).2.2.1 HK.out.bel).place k hlt
          obtain ⟨b2,off2,hao2,m0,m1,m2,m3,m4⟩ := (Trm.LRow.low HIN'.out.levels (Tm.In_iff.1 HIN'.out).2.2.1 HK.out.bel).place k hlt'
          rw [hao1] at c3
          rw [hao2] at d3
          clear hao1 hao2
          have HY : Hid (a.ls[k] = b.ls[k] → a.ls.take (k + 1) = b.ls.take (k + 1)) := hid (take_same hlt hlt' HT.out)
          have HF : Hid (¬ a.ls[k] = b.ls[k] → false = G) := hid (fun hn => HN.out fun e => hn (by subst e; rfl))
          generalize a.ls[k] = x at l0 l1 l2 l3 l4 HY HF
          generalize b.ls[k] = y at m0 m1 m2 m3 m4 HY HF
          by_cases hxy : x = y
          ·subst hxy
           have hsame := eq_self x.p0 x.p1 x.p2 x.p3
           have HY1 := hid (HY.out rfl)
           clear HF HY hlt'
           go_wp2_with fail
           go_quiet (fail)
           go_wp2_with fail
           go_roundw
           case rel => exact ⟨k + 1,by go_num,by omega,HY1.out,HK.out.drewN _⟩
           case measure => simp [intOf]; omega
          ·have HF1 := hid (HF.out hxy)
           have hne : ((x.c == y.c) && (x.p0 == y.p0 && x.p1 == y.p1 && x.p2 == y.p2 && x.p3 == y.p3)) = false := by
            rw [Bool.eq_false_iff]
            intro hh
            simp only [Bool.and_eq_true,beq_iff_eq] at hh
            exact hxy (Lv.ext_all hh.1 hh.2.1.1.1 hh.2.1.1.2 hh.2.1.2 hh.2.2)
           have harr := eq_arr 9997 x.p0 x.p1 x.p2 x.p3 y.p0 y.p1 y.p2 y.p3
           generalize (x.p0 == y.p0 && x.p1 == y.p1 && x.p2 == y.p2 && x.p3 == y.p3) = r at hne harr
           have harr' : ∀ w,(Op.equalIn 9999 59 (.agg #[.int .i64 x.p0,.int .i64 x.p1,.int .i64 x.p2,.int .i64 x.p3]) (.agg #[.int .i64 y.p0,.int .i64 y.p1,.int .i64 y.p2,.int .i64 y.p3])).run Tryz.prog w = .ok r w := harr
           clear harr
           clear HF HY hlt' hxy
           by_cases hc : x.c = y.c
           ·have hc' : (x.c == y.c) = true := by simpa using hc
            have hr : r = false := by rw [hc'] at hne; simpa using hne
            subst hr
            clear hne hc
            go_wp2_with fail
            go_quiet (fail)
            go_wp2_with fail
            go_ret
            exact ⟨ret_bool HF1.out,(HK.out.drewN _).bel⟩
           ·have hc' : (x.c == y.c) = false := by simpa using hc
            clear hne hc
            go_wp2_with fail
            go_quiet (fail)
            go_wp2_with fail
            go_ret
            exact ⟨ret_bool HF1.out,(HK.out.drewN _).bel⟩
         ·have HLS : Hid (a.ls = b.ls) := hid (all_same H4.out (by omega) HT.out)
          clear d3 HT
          go_wp2_with fail
          clear c3 c4 d4
          go_loopw [6] (fun i wr => TsRel w (a.box h) (b.box h') a.ts b.ts i wr) (fun i _ => a.ts.length - (intOf i).toNat)
          case atStart => exact ⟨0,rfl,by omega,rfl,HK.out⟩
          case round =>
           clear HK hlt hk
           obtain ⟨k,rfl,hk,htk,hkept⟩ := hrel
           have HK := hid hkept
           have HT := hid htk
           clear hkept htk
           obtain ⟨c0,c1,c2,c3,c4⟩ := Tm.cells HK.out.box
           have hbox' := HK.out.box'
           obtain ⟨d0,d1,d2,d3,d4⟩ := Tm.cells hbox'
           rw [← H5.out] at d4
           clear hbox' c0 c1 c2 d0 d1 d2 c3 d3
           by_cases hlt : k < a.ts.length
           ·have hlt' : k < b.ts.length := by have := H5.out; omega
            obtain ⟨b1,off1,hao1,hb1,e1,⟨l0,l1,l2,l3,l4⟩,i1⟩ := (HIN.out.below HK.out.bel).kid k hlt
            obtain ⟨b2,off2,hao2,hb2,e2,⟨m0,m1,m2,m3,m4⟩,i2⟩ := (HIN'.out.below HK.out.bel).kid k hlt'
            rw [hao1] at c4
            rw [hao2] at d4
            clear hao1 hao2
            have HY : Hid (a.ts[k] = b.ts[k] → a.ts.take (k + 1) = b.ts.take (k + 1)) := hid (take_same hlt hlt' HT.out)
            have HF : Hid (¬ a.ts[k] = b.ts[k] → false = G) := hid (fun hn => HN.out fun e => hn (by subst e; rfl))
            have HX := hid (HIH.out _ (List.getElem_mem hlt) b.ts[k] e1 e2)
            have HI1 := hid i1
            have HI2 := hid i2
            clear i1 i2
            generalize a.ts[k] = x at l0 l1 l2 l3 l4 HY HF HX HI1
            generalize b.ts[k] = y at m0 m1 m2 m3 m4 HY HF HX HI2
            have HZ : Hid (∀ W,Below wr.heap.size wr W → Calls Tryz.prog 29 #[x.val e1,y.val e2] W fun e w' => e = .returned (.bool (same x y)) ∧ Below W.heap.size W w') :=
             hid (fun W hW => HX.out W (Tm.In.mono (Nat.le_trans HK.out.bel.size hW.size) _ _ (Tm.In.below (hW.mono HK.out.bel.size) _ _ HI1.out)) (Tm.In.mono (Nat.le_trans HK.out.bel.size hW.size) _ _ (Tm.In.below (hW.mono HK.out.bel.size) _ _ HI2.out)))
            unfold Tm.val Tm.vals at HZ
            have z1 : w.heap.size < wr.heap.size := World.block_lt_of_cell? wr _ c4
            have z2 : w.heap.size + 1 < wr.heap.size := World.block_lt_of_cell? wr _ d4
            have z3 : b1 < wr.heap.size := World.block_lt_of_cell? wr _ l0
            have z4 : b2 < wr.heap.size := World.block_lt_of_cell? wr _ m0
            clear HX HI1 HI2 hlt' hb1 hb2
            cases hr : same x y
            ·have HF1 := hid (HF.out (fun e => by rw [same_iff.2 e] at hr; cases hr))
             rw [hr] at HZ
             clear hr HF HY
             go_wp2_with fail
             go_region_held3 (fun w' => w'.cell? ⟨w.heap.size,0 + 4,none⟩ = some (.slice (some ⟨b1,off1,none⟩) a.ts.length h.tc) ∧ w'.cell? ⟨w.heap.size + 1,0 + 4,none⟩ = some (.slice (some ⟨b2,off2,none⟩) a.ts.length h'.tc) ∧ w'.cell? ⟨b1,off1 + k * 5,none⟩ = some (.int .u8 x.k) ∧ w'.cell? ⟨b1,off1 + k * 5 + 1,none⟩ = some (.int .i64 x.n) ∧ w'.cell? ⟨b1,off1 + k * 5 + 2,none⟩ = some (.string x.s) ∧ w'.cell? ⟨b1,off1 + k * 5 + 3,none⟩ = some (.slice e1.lo x.ls.length e1.lc) ∧ w'.cell? ⟨b1,off1 + k * 5 + 4,none⟩ = some (.slice e1.to x.ts.length e1.tc) ∧ w'.cell? ⟨b2,off2 + k * 5,none⟩ = some (.int .u8 y.k) ∧ w'.cell? ⟨b2,off2 + k * 5 + 1,none⟩ = some (.int .i64 y.n) ∧ w'.cell? ⟨b2,off2 + k * 5 + 2,none⟩ = some (.string y.s) ∧ w'.cell? ⟨b2,off2 + k * 5 + 3,none⟩ = some (.slice e2.lo y.ls.length e2.lc) ∧ w'.cell? ⟨b2,off2 + k * 5 + 4,none⟩ = some (.slice e2.to y.ts.length e2.tc))
              (go_keep)
              ((go_at_call 29; refine (HZ.out _ ?_).mono ?_; exact (Below.refl _ _).drew; rintro e w1 ⟨rfl,bw⟩; have q1 := (bw.cell (p := ⟨w.heap.size,0 + 4,none⟩) z1).trans c4; have q2 := (bw.cell (p := ⟨w.heap.size + 1,0 + 4,none⟩) z2).trans d4; obtain ⟨r0,r1,r2,r3,r4⟩ := TCells.below ⟨l0,l1,l2,l3,l4⟩ (undrew bw) z3; obtain ⟨s0,s1,s2,s3,s4⟩ := TCells.below ⟨m0,m1,m2,m3,m4⟩ (undrew bw) z4))
             have HK1 := hid (HK.out.step (undrew bw))
             clear bw r0 r1 r2 r3 r4 s0 s1 s2 s3 s4 q1 q2 c4 d4 l0 l1 l2 l3 l4 m0 m1 m2 m3 m4
             go_wp2_with fail
             go_ret
             exact ⟨ret_bool HF1.out,HK1.out.bel⟩
            ·have HY1 := hid (HY.out (same_iff.1 hr))
             rw [hr] at HZ
             clear hr HF HY
             go_wp2_with fail
             go_region_held3 (fun w' => w'.cell? ⟨w.heap.size,0 + 4,none⟩ = some (.slice (some ⟨b1,off1,none⟩) a.ts.length h.tc) ∧ w'.cell? ⟨w.heap.size + 1,0 + 4,none⟩ = some (.slice (some ⟨b2,off2,none⟩) a.ts.length h'.tc) ∧ w'.cell? ⟨b1,off1 + k * 5,none⟩ = some (.int .u8 x.k) ∧ w'.cell? ⟨b1,off1 + k * 5 + 1,none⟩ = some (.int .i64 x.n) ∧ w'.cell? ⟨b1,off1 + k * 5 + 2,none⟩ = some (.string x.s) ∧ w'.cell? ⟨b1,off1 + k * 5 + 3,none⟩ = some (.slice e1.lo x.ls.length e1.lc) ∧ w'.cell? ⟨b1,off1 + k * 5 + 4,none⟩ = some (.slice e1.to x.ts.length e1.tc) ∧ w'.cell? ⟨b2,off2 + k * 5,none⟩ = some (.int .u8 y.k) ∧ w'.cell? ⟨b2,off2 + k * 5 + 1,none⟩ = some (.int .i64 y.n) ∧ w'.cell? ⟨b2,off2 + k * 5 + 2,none⟩ = some (.string y.s) ∧ w'.cell? ⟨b2,off2 + k * 5 + 3,none⟩ = some (.slice e2.lo y.ls.length e2.lc) ∧ w'.cell? ⟨b2,off2 + k * 5 + 4,none⟩ = some (.slice e2.to y.ts.length e2.tc))
              (go_keep)
              ((go_at_call 29; refine (HZ.out _ ?_).mono ?_; exact (Below.refl _ _).drew; rintro e w1 ⟨rfl,bw⟩; have q1 := (bw.cell (p := ⟨w.heap.size,0 + 4,none⟩) z1).trans c4; have q2 := (bw.cell (p := ⟨w.heap.size + 1,0 + 4,none⟩) z2).trans d4; obtain ⟨r0,r1,r2,r3,r4⟩ := TCells.below ⟨l0,l1,l2,l3,l4⟩ (undrew bw) z3; obtain ⟨s0,s1,s2,s3,s4⟩ := TCells.below ⟨m0,m1,m2,m3,m4⟩ (undrew bw) z4))
             have HK1 := hid (HK.out.step (undrew bw))
             clear bw r0 r1 r2 r3 r4 s0 s1 s2 s3 s4 q1 q2 c4 d4 l0 l1 l2 l3 l4 m0 m1 m2 m3 m4
             go_wp2_with fail
             go_roundw
             case rel => exact ⟨k + 1,by go_num,by omega,HY1.out,HK1.out⟩
             case measure => simp [intOf]; omega
           ·have HE : Hid (true = G) := hid (by
             rw [HG.out]
             exact same_yes (Tm.ext H1.out H2.out H3.out HLS.out (all_same H5.out (by omega) HT.out)))
            go_wp2_with fail
            go_ret
            exact ⟨ret_bool HE.out,HK.out.bel⟩
       ·have HF1 : Hid (false = G) := hid (HN.out (fun e => h5 (by rw [e])))
        have q : ((a.ts.length : Int) != b.ts.length) = true := by simp; omega
        unfold Tm.val Tm.vals
        rw [← h1,← h2,← h3,← h4]
        clear h5 h1 h2 h3 h4
        go_enter Tryz.func29,Tryz.ntmps29
        go_wp2_with fail
        go_ret
        exact ⟨ret_bool HF1.out,below_two _ _ _⟩
      ·have HF1 : Hid (false = G) := hid (HN.out (fun e => h4 (by rw [e])))
       have q : ((a.ls.length : Int) != b.ls.length) = true := by simp; omega
       unfold Tm.val Tm.vals
       rw [← h1,← h2,← h3]
       clear h4 h1 h2 h3
       go_enter Tryz.func29,Tryz.ntmps29
       go_wp2_with fail
       go_ret
       exact ⟨ret_bool HF1.out,below_two _ _ _⟩
     ·have HF1 : Hid (false = G) := hid (HN.out (fun e => h3 (by rw [e])))
      have q : ¬ a.s.toList = b.s.toList := fun e => h3 (Go.WideShapes.bytes_inj (by rwa [ByteArray.toList_eq,ByteArray.toList_eq] at e))
      unfold Tm.val Tm.vals
      rw [← h1,← h2]
      clear h3 h1 h2
      go_enter Tryz.func29,Tryz.ntmps29
      go_wp2_with fail
      go_ret
      exact ⟨ret_bool HF1.out,below_two _ _ _⟩
    ·have HF1 : Hid (false = G) := hid (HN.out (fun e => h2 (by rw [e])))
     have q : (a.n != b.n) = true := by simpa using h2
     unfold Tm.val Tm.vals
     rw [← h1]
     clear h2 h1
     go_enter Tryz.func29,Tryz.ntmps29
     go_wp2_with fail
     go_ret
     exact ⟨ret_bool HF1.out,below_two _ _ _⟩
   ·have HF1 : Hid (false = G) := hid (HN.out (fun e => h1 (by rw [e])))
    have q : (a.k != b.k) = true := by simpa using h1
    unfold Tm.val Tm.vals
    clear h1
    go_enter Tryz.func29,Tryz.ntmps29
    go_wp2_with fail
    go_ret
    exact ⟨ret_bool HF1.out,below_two _ _ _⟩
end Go.Proofs.YtiekbhlnnmnklaaGreat
namespace Go.Proofs.YtiekbhlnnmnklaaGreat
open Go.RowKit Go.Shelf Lvl Trm
def Trm.Drawn (w wr : World) : Prop := ∃ n,wr = w.drewN n
theorem Trm.Drawn.refl (w : World) : Drawn w w := ⟨0,by simp [World.drewN]⟩
theorem Trm.Drawn.of (w : World) (n : Nat) : Drawn w (w.drewN n) := ⟨n,rfl⟩
theorem Trm.Drawn.more {w wr : World} (h : Drawn w wr) (n : Nat) : Drawn w (wr.drewN n) := by
 obtain ⟨a,rfl⟩ := h
 exact ⟨a + n,by rw [World.drewN_drewN]⟩
theorem Trm.Drawn.heap {w wr : World} (h : Drawn w wr) : wr.heap = w.heap := by
 obtain ⟨a,rfl⟩ := h
 simp [World.drewN]
theorem Trm.Drawn.below {w wr : World} (h : Drawn w wr) (B : Nat) : Below B w wr := by
 obtain ⟨a,rfl⟩ := h
 exact drew_below _ _ _
theorem Trm.cell_heap {w wr : World} (h : wr.heap = w.heap) (p : Addr) : wr.cell? p = w.cell? p := by simp [World.cell?,h]
theorem Trm.LAt.heap {w wr : World} {b o : Nat} {l : Lv} (h : wr.heap = w.heap) (g : LAt w b o l) : LAt wr b o l :=
 ⟨(cell_heap h _).trans g.1,(cell_heap h _).trans g.2.1,(cell_heap h _).trans g.2.2.1,(cell_heap h _).trans g.2.2.2.1,(cell_heap h _).trans g.2.2.2.2⟩
theorem Trm.LRow.heap {w wr : World} {ao : Option Addr} {ls : List Lv} (h : wr.heap = w.heap) (g : LRow w ao ls) : LRow wr ao ls := by
 refine ⟨fun k hk => ?_⟩
 obtain ⟨b,off,hao,ha⟩ := g.place k hk
 exact ⟨b,off,hao,LAt.heap h ha⟩
theorem Trm.TCells.heap {w wr : World} {b o : Nat} {t : Tm} {h : Hd} (e : wr.heap = w.heap) (c : TCells w b o t h) : TCells wr b o t h :=
 ⟨(cell_heap e _).trans c.c0,(cell_heap e _).trans c.c1,(cell_heap e _).trans c.c2,(cell_heap e _).trans c.c3,(cell_heap e _).trans c.c4⟩
theorem Trm.In.heap {B : Nat} {w wr : World} (e : wr.heap = w.heap) (t : Tm) : ∀ h,t.In B w h → t.In B wr h := by
 induction t using Tm.ind with
 | h t ih =>
   intro h hi
   obtain ⟨h1,h2,h3,h4⟩ := Tm.In_iff.1 hi
   refine Tm.In_iff.2 ⟨h1,LRow.heap e h2,h3,RowIn.mk fun k hk => ?_⟩
   obtain ⟨b,off,hao,hb,h',hc,hin⟩ := h4.place k hk
   exact ⟨b,off,hao,hb,h',TCells.heap e hc,ih _ (List.getElem_mem hk) h' hin⟩
noncomputable def Trm.sameL (a b : List Lv) : Bool := @decide (a = b) (Classical.propDecidable _)
theorem Trm.sameL_iff {a b : List Lv} : sameL a b = true ↔ a = b := by unfold sameL; simp
theorem Trm.sameL_yes {a b : List Lv} (h : a = b) : true = sameL a b := (sameL_iff.2 h).symm
theorem Trm.sameL_no {a b : List Lv} (h : ¬ a = b) : false = sameL a b := by
 cases hs : sameL a b
 ·rfl
 ·exact absurd (sameL_iff.1 hs) h
def Trm.EqRel (w : World) (ls ls' : List Lv) (i : Value) (wr : World) : Prop :=
 ∃ k : Nat,i = .int .i64 k ∧ k ≤ ls.length ∧ ls.take k = ls'.take k ∧ Drawn w wr
theorem Equal_any (ao bo : Option Addr) (ca cb : Nat) (la lb : List Lv) (w : World) (ha : LRow w ao la) (hb : LRow w bo lb) (hna : la.length ≤ 9223372036854775807) :
 Calls Tryz.prog 117 #[.slice ao la.length ca,.slice bo lb.length cb] w fun e w' => e = .returned (.bool (sameL la lb)) ∧ Drawn w w' := by
 obtain ⟨G,hG⟩ : ∃ G,G = sameL la lb := ⟨_,rfl⟩
 rw [← hG]
 have HG := hid hG
 have HA := hid ha
 have HB := hid hb
 clear hG ha hb
 have HN : Hid (¬ la = lb → false = G) := hid (fun hn => by rw [HG.out]; exact sameL_no hn)
 by_cases hl : la.length = lb.length
 ·have HL := hid hl
  rw [← hl]
  clear hl
  go_enter Tryz.func117,Tryz.ntmps117
  go_wp2_with fail
  go_loopw [13] (fun i wr => EqRel w la lb i wr) (fun i _ => la.length - (intOf i).toNat)
  case atStart => exact ⟨0,rfl,by omega,rfl,Drawn.refl _⟩
  case round =>
   obtain ⟨k,rfl,hk,htk,hdr⟩ := hrel
   have HT := hid htk
   have HD := hid hdr
   clear htk hdr
   by_cases hlt : k < la.length
   ·have hlt' : k < lb.length := by have := HL.out; omega
    obtain ⟨b1,off1,hao1,l0,l1,l2,l3,l4⟩ := (Trm.LRow.heap HD.out.heap HA.out).place k hlt
    obtain ⟨b2,off2,hao2,m0,m1,m2,m3,m4⟩ := (Trm.LRow.heap HD.out.heap HB.out).place k hlt'
    have HY : Hid (la[k] = lb[k] → la.take (k + 1) = lb.take (k + 1)) := hid (take_same hlt hlt' HT.out)
    have HF : Hid (¬ la[k] = lb[k] → false = G) := hid (fun hn => HN.out fun e => hn (by subst e; rfl))
    generalize la[k] = x at l0 l1 l2 l3 l4 HY HF
    generalize lb[k] = y at m0 m1 m2 m3 m4 HY HF
    subst hao1
    subst hao2
    by_cases hxy : x = y
    ·subst hxy
     have hsame := eq_self x.p0 x.p1 x.p2 x.p3
     have HY1 := hid (HY.out rfl)
     clear HF HY hlt'
     go_wp2_with fail
     go_quiet (fail)
     go_wp2_with fail
     go_roundw
     case rel => exact ⟨k + 1,by go_num,by omega,HY1.out,HD.out.more _⟩
     case measure => simp [intOf]; omega
    ·have HF1 := hid (HF.out hxy)
     have hne : ((x.c == y.c) && (x.p0 == y.p0 && x.p1 == y.p1 && x.p2 == y.p2 && x.p3 == y.p3)) = false := by
      rw [Bool.eq_false_iff]
      intro hh
      simp only [Bool.and_eq_true,beq_iff_eq] at hh
      exact hxy (Lv.ext_all hh.1 hh.2.1.1.1 hh.2.1.1.2 hh.2.1.2 hh.2.2)
     have harr := eq_arr 9997 x.p0 x.p1 x.p2 x.p3 y.p0 y.p1 y.p2 y.p3
     generalize (x.p0 == y.p0 && x.p1 == y.p1 && x.p2 == y.p2 && x.p3 == y.p3) = r at hne harr
     have harr' : ∀ w,(Op.equalIn 9999 59 (.agg #[.int .i64 x.p0,.int .i64 x.p1,.int .i64 x.p2,.int .i64 x.p3]) (.agg #[.int .i64 y.p0,.int .i64 y.p1,.int .i64 y.p2,.int .i64 y.p3])).run Tryz.prog w = .ok r w := harr
     clear harr
     clear HF HY hlt' hxy
     by_cases hc : x.c = y.c
     ·have hc' : (x.c == y.c) = true := by simpa using hc
      have hr : r = false := by rw [hc'] at hne; simpa using hne
      subst hr
      clear hne hc
      go_wp2_with fail
      go_quiet (fail)
      go_wp2_with fail
      go_ret
      exact ⟨ret_bool HF1.out,HD.out.more _⟩
     ·have hc' : (x.c == y.c) = false := by simpa using hc
      clear hne hc
      go_wp2_with fail
      go_quiet (fail)
      go_wp2_with fail
      go_ret
      exact ⟨ret_bool HF1.out,HD.out.more _⟩
   ·have HE : Hid (true = G) := hid (by
     rw [HG.out]
     exact sameL_yes (all_same HL.out (by omega) HT.out))
    go_wp2_with fail
    go_ret
    exact ⟨ret_bool HE.out,HD.out⟩
 ·have HF1 := hid (HN.out (fun e => hl (by rw [e])))
  have q : ((la.length : Int) != lb.length) = true := by simp; omega
  clear hl
  go_enter Tryz.func117,Tryz.ntmps117
  go_wp2_with fail
  go_ret
  exact ⟨ret_bool HF1.out,Drawn.refl _⟩
end Go.Proofs.YtiekbhlnnmnklaaGreat
namespace Go.Proofs.YtiekbhlnnmnklaaGreat
open Go.RowKit Go.Shelf Lvl Trm
theorem Trm.carry {t : Tm} {h : Hd} {w w' : World} (hi : t.In w.heap.size w h) (b : Below w.heap.size w w') : t.In w'.heap.size w' h := Tm.In.mono b.size _ _ (Tm.In.below b _ _ hi)
theorem Trm.go {w W w1 : World} (h : Below w.heap.size w W) (b : Below W.heap.size W w1) : Below w.heap.size w w1 := h.trans (b.mono h.size)
end Go.Proofs.YtiekbhlnnmnklaaGreat
namespace Go.Proofs.YtiekbhlnnmnklaaGreat
open Go.RowKit Go.Shelf Lvl Trm
namespace Trm
def bnd (K i : Int) : Int := if ((K = 5 ∨ K = 6) ∧ i = 1) ∨ (K = 7 ∧ i = 2) then 1 else 0
theorem bnd_under {K : Int} {i : Nat} (u : Int) : u + bnd K i = under K i u := by
 unfold bnd under binds kids
 by_cases h5 : K = 5
 ·subst h5; simp; split <;> omega
 ·by_cases h6 : K = 6
  ·subst h6; simp; split <;> omega
  ·by_cases h7 : K = 7
   ·subst h7; simp; split <;> omega
   ·simp [h5,h6,h7]
theorem top_from (l : List Int) : ∀ n m : Int,l.foldl (fun n v => max n (v + 1)) (max n m) = max n (l.foldl (fun n v => max n (v + 1)) m) := by
 induction l with
 | nil => intro n m; rfl
 | cons a r ih => intro n m; simp only [List.foldl_cons]; rw [← ih]; congr 1; omega
theorem top_append (a b : List Int) : top (a ++ b) = max (top a) (top b) := by
 have h := top_from b (top a) 0
 unfold top at h ⊢
 rw [List.foldl_append,← h]
 congr 1
 have := top_ge a
 unfold top at this
 omega
theorem top_tV (n u : Int) : top ((tV n).vs u) = max 0 (n + 1 - u) := by
 unfold tV
 rw [Tm.vs,vsL]
 unfold top
 by_cases hun : u ≤ n
 ·rw [if_pos ⟨rfl,hun⟩]; simp; omega
 ·rw [if_neg (fun hh => hun hh.2)]; simp; omega
def FrRel (w : World) (o : Obj) (k : Int) (ts : List Tm) (u G : Int) (v i : Value) (wr : World) : Prop :=
 ∃ (j : Nat) (L : Int),v = .int .i64 L ∧ i = .int .i64 j ∧ j ≤ ts.length ∧ 0 ≤ L ∧ max L (top (vsL k (ts.drop j) j u)) = G ∧ Kept w wr o
end Trm
theorem RefBinds_any (K n : Int) (s : ByteArray) (lo to : Option Addr) (ln lc tn tc : Nat) (i : Int) (w : World) :
 Calls Tryz.prog 190 #[.agg #[.int .u8 K,.int .i64 n,.string s,.slice lo ln lc,.slice to tn tc],.int .i64 i] w fun e w' => e = .returned (.int .i64 (bnd K i)) ∧ Below w.heap.size w w' := by
 by_cases h5 : K = 5
 ·subst h5
  by_cases h1 : i = 1
  ·subst h1
   rw [show bnd 5 1 = 1 by decide]
   go_enter Tryz.func190,Tryz.ntmps190
   go_wp2_with fail
   go_ret
   exact ⟨rfl,below_one _ _⟩
  ·rw [show bnd 5 i = 0 by unfold bnd; rw [if_neg (by omega)]]
   have d1 : (i == 1) = false := by simpa using h1
   go_enter Tryz.func190,Tryz.ntmps190
   go_wp2_with fail
   go_ret
   exact ⟨rfl,below_one _ _⟩
 ·by_cases h6 : K = 6
  ·subst h6
   by_cases h1 : i = 1
   ·subst h1
    rw [show bnd 6 1 = 1 by decide]
    go_enter Tryz.func190,Tryz.ntmps190
    go_wp2_with fail
    go_ret
    exact ⟨rfl,below_one _ _⟩
   ·rw [show bnd 6 i = 0 by unfold bnd; rw [if_neg (by omega)]]
    have d1 : (i == 1) = false := by simpa using h1
    go_enter Tryz.func190,Tryz.ntmps190
    go_wp2_with fail
    go_ret
    exact ⟨rfl,below_one _ _⟩
  ·by_cases h7 : K = 7
   ·subst h7
    by_cases h2 : i = 2
    ·subst h2
     rw [show bnd 7 2 = 1 by decide]
     go_enter Tryz.func190,Tryz.ntmps190
     go_wp2_with fail
     go_ret
     exact ⟨rfl,below_one _ _⟩
    ·rw [show bnd 7 i = 0 by unfold bnd; rw [if_neg (by omega)]]
     have d2 : (i == 2) = false := by simpa using h2
     go_enter Tryz.func190,Tryz.ntmps190
     go_wp2_with fail
     go_ret
     exact ⟨rfl,below_one _ _⟩
   ·rw [show bnd K i = 0 by unfold bnd; rw [if_neg (by omega)]]
    have d5 : (K == 5) = false := by simpa using h5
    have d6 : (K == 6) = false := by simpa using h6
    have d7 : (K == 7) = false := by simpa using h7
    go_enter Tryz.func190,Tryz.ntmps190
    go_wp2_with fail
    go_ret
    exact ⟨rfl,below_one _ _⟩
theorem free_t_any (t : Tm) : ∀ (h : Hd) (d u : Int) (w : World),OkMay t d → 0 ≤ u → u ≤ d → t.In w.heap.size w h →
 Calls Tryz.prog 160 #[t.val h,.int .i64 u] w fun e w' => e = .returned (.int .i64 (top (t.vs u))) ∧ Below w.heap.size w w' := by
 induction t using Tm.ind with
 | h t ih =>
   intro h d u w hok hu0 hud hin
   have hfit := hin.fit
   have hts := hfit.ts
   have hd1 := hok.node.2
   have hnum := node_num hok.node.1
   have hfew := (node_few hok.node.1).1
   have hf3 := (node_few hok.node.1).2.1
   clear hfit
   have HIN := hid hin
   have HIH := hid ih
   have HOK := hid hok
   have hmax := run_max
   by_cases h2 : t.k = 2
   ·have hv := node_var hok.node.1 h2
    have hG : Trm.top (t.vs u) = max 0 (t.n + 1 - u) := by
     have := top_tV t.n u
     rw [← hv] at this
     exact this
    rw [hG]
    unfold Tm.val Tm.vals
    rw [h2]
    have hw1 : IntKind.i64.wrap (t.n + 1) = t.n + 1 := IntWalk.i64_in _ (by omega)
    have hw2 : IntKind.i64.wrap (t.n + 1 - u) = t.n + 1 - u := IntWalk.i64_in _ (by omega)
    clear hin ih hG hv h2
    go_enter Tryz.func160,Tryz.ntmps160
    go_wp2_with fail
    go_ret
    exact ⟨rfl,below_one _ _⟩
   ·have hk2 : (t.k == 2) = false := by simpa using h2
    obtain ⟨G,hG⟩ : ∃ G,G = top (t.vs u) := ⟨_,rfl⟩
    rw [← hG]
    have HG : Hid (max 0 (top (vsL t.k (t.ts.drop 0) 0 u)) = G) := by
     rw [hG]
     show max 0 (top (vsL t.k t.ts 0 u)) = top (t.vs u)
     have e : t.vs u = vsL t.k t.ts 0 u := by
      cases t with
      | mk k n s ls ts => rw [Tm.vs,if_neg (fun hh => h2 hh.1)]; rfl
     rw [e]
     have := top_ge (vsL t.k t.ts 0 u)
     omega
    clear hG hin ih hok
    unfold Tm.val Tm.vals
    go_enter Tryz.func160,Tryz.ntmps160
    go_wp2_with fail
    go_loopw [5,6] (fun v i wr => FrRel w (t.box h) t.k t.ts u G v i wr) (fun _ i _ => t.ts.length - (intOf i).toNat)
    case atStart => exact ⟨0,0,rfl,rfl,by omega,by omega,HG.out,Kept.start _ _⟩
    case round =>
     obtain ⟨j,L,rfl,rfl,hj,hL0,hGk,hkept⟩ := hrel
     have HK := hid hkept
     have HGk := hid hGk
     clear hkept hGk
     obtain ⟨c0,c1,c2,c3,c4⟩ := Tm.cells HK.out.box
     by_cases hlt : j < t.ts.length
     ·obtain ⟨b,off,hao,hat⟩ := HIN.out.kid j hlt
      obtain ⟨hb,hd',hcx,hin'⟩ := hat.below HK.out.bel
      rw [hao] at c4
      have hbw := HK.out.bel.size
      have HI := hid (Tm.In.mono HK.out.bel.size _ _ hin')
      have hun := bnd_under (K := t.k) (i := j) u
      have hul := under_le t.k j u
      have HX := hid (fun (W : World) (hW : Below wr.heap.size wr W) => HIH.out _ (List.getElem_mem hlt) hd' (d + 1) (under t.k j u) W (HOK.out.down _ (List.getElem_mem hlt)) (by omega) (by omega) (carry HI.out hW))
      have HNX : Hid (max (max L (top (t.ts[j].vs (under t.k j u)))) (top (vsL t.k (t.ts.drop (j + 1)) (j + 1) u)) = G) := hid (by
       have h0 := HGk.out
       rw [drop_get hlt,vsL,top_append] at h0
       by_cases hl : (j : Int) = kids t.k - 1
       ·have hn : t.ts.drop (j + 1) = [] := List.drop_eq_nil_of_le (by omega)
        rw [hn,vsL] at h0 ⊢
        rw [← h0]; omega
       ·have hun2 : under t.k j u = u := by unfold under; rw [if_neg (fun hh => hl hh.2)]
        rw [hun2] at h0 ⊢
        rw [← h0]; omega)
      have HB := hid (fun (W : World) => RefBinds_any t.k t.n t.s h.lo (some ⟨b,off,none⟩) t.ls.length h.lc t.ts.length h.tc j W)
      have hwr : IntKind.i64.wrap (u + bnd t.k j) = under t.k j u := by rw [hun]; exact IntWalk.i64_in _ (by omega)
      have hwr2 : IntKind.i64.wrap (under t.k j u) = under t.k j u := IntWalk.i64_in _ (by omega)
      have HCX := hid hcx
      obtain ⟨k0,k1,k2,k3,k4⟩ := hcx
      have HAO := hid hao
      clear hat hin' hao
      generalize hq : top (t.ts[j].vs (under t.k j u)) = X at HX HNX
      generalize t.ts[j] = x at k0 k1 k2 k3 k4 HX HI HCX hq
      have hX0 : 0 ≤ X := by rw [← hq]; exact top_ge _
      unfold Tm.val Tm.vals at HX
      clear hq
      have hbz : b < wr.heap.size := by omega
      go_wp2_with fail
      have hbw0 : Below wr.heap.size wr wr.drew := (Below.refl _ _).drew
      go_region_held3 (fun w' => Below wr.heap.size wr w' ∧ w'.cell? ⟨w.heap.size,0,none⟩ = some (.int .u8 t.k) ∧ w'.cell? ⟨w.heap.size,1,none⟩ = some (.int .i64 t.n) ∧ w'.cell? ⟨w.heap.size,2,none⟩ = some (.string t.s) ∧ w'.cell? ⟨w.heap.size,3,none⟩ = some (.slice h.lo t.ls.length h.lc) ∧ w'.cell? ⟨w.heap.size,4,none⟩ = some (.slice (some ⟨b,off,none⟩) t.ts.length h.tc) ∧ w'.cell? ⟨b,off + j * 5,none⟩ = some (.int .u8 x.k) ∧ w'.cell? ⟨b,off + j * 5 + 1,none⟩ = some (.int .i64 x.n) ∧ w'.cell? ⟨b,off + j * 5 + 2,none⟩ = some (.string x.s) ∧ w'.cell? ⟨b,off + j * 5 + 3,none⟩ = some (.slice hd'.lo x.ls.length hd'.lc) ∧ w'.cell? ⟨b,off + j * 5 + 4,none⟩ = some (.slice hd'.to x.ts.length hd'.tc))
       (go_keep)
       (first
         | (go_at_call 190; (with_reducible refine (HB.out _).mono ?_); rintro e w3 ⟨rfl,bw⟩; have hb3 : Below wr.heap.size wr w3 := Trm.go (by first | assumption | exact (Below.refl _ _).drew) bw; obtain ⟨c0,c1,c2,c3,c4⟩ := Tm.cells (HK.out.step hb3).box; rw [HAO.out] at c4; obtain ⟨k0,k1,k2,k3,k4⟩ := HCX.out.below hb3 hbz)
         | (go_at_call 160; (with_reducible refine (HX.out _ ?_).mono ?_); (first | assumption | exact (Below.refl _ _).drew); rintro e w3 ⟨rfl,bw⟩; have hb3 : Below wr.heap.size wr w3 := Trm.go (by first | assumption | exact (Below.refl _ _).drew) bw; obtain ⟨c0,c1,c2,c3,c4⟩ := Tm.cells (HK.out.step hb3).box; rw [HAO.out] at c4; obtain ⟨k0,k1,k2,k3,k4⟩ := HCX.out.below hb3 hbz))
      have HKF := hid (HK.out.step hb3)
      go_wp2_with fail
      go_roundw
      case rel => exact ⟨j + 1,max L X,rfl,by go_num,by omega,by omega,HNX.out,HKF.out⟩
      case measure => simp [intOf]; omega
     ·have HE : Hid (L = G) := by
       have := HGk.out
       rw [List.drop_eq_nil_of_le (by omega),vsL] at this
       show _ = _
       rw [← this]
       have : Trm.top [] = 0 := rfl
       omega
      go_wp2_with fail
      go_ret
      exact ⟨ret_int HE.out,HK.out.bel⟩
theorem RefFree_any (t : Tm) (h : Hd) (w : World) (hmay : t.may = true) (hin : t.In w.heap.size w h) :
 Calls Tryz.prog 110 #[t.val h] w fun e w' => e = .returned (.int .i64 t.free) ∧ Below w.heap.size w w' := by
 have hf : t.free = top (t.vs 0) := by unfold Tm.free; rw [if_pos hmay]; rfl
 have HX := hid (free_t_any t h 1 0 _ (OkMay.start hmay) (by omega) (by omega) (carry hin (below_one w (t.box h))))
 rw [hf]
 generalize top (t.vs 0) = R at HX ⊢
 unfold Tm.val at HX ⊢
 unfold Tm.box at HX
 dsimp only [Tm.vals] at HX ⊢
 clear hin hf
 go_enter Tryz.func110,Tryz.ntmps110
 go_wp2_with fail
 refine HX.out.mono ?_
 rintro e w1 ⟨rfl,b1⟩
 have HB := hid (Trm.go (below_one w _) b1)
 clear b1
 go_wp2_with fail
 go_ret
 exact ⟨rfl,HB.out⟩
end Go.Proofs.YtiekbhlnnmnklaaGreat
namespace Go.Proofs.YtiekbhlnnmnklaaGreat
open Go.RowKit Go.Shelf Lvl Trm
namespace Trm
theorem firm_leaf {P : Nat → Prop} {w : World} {k n : Int} {s : ByteArray} {h : Hd} (hk0 : 0 ≤ k) (hk1 : k ≤ 255) (hn0 : -9223372036854775808 ≤ n) (hn1 : n ≤ 9223372036854775807) (hs : s.size ≤ 9223372036854775807) : FirmS P w (.mk k n s [] []) h :=
 fun _ _ => Tm.In_iff.2 ⟨⟨hk0,hk1,hn0,hn1,hs,by simp [Tm.ls],by simp [Tm.ts]⟩,⟨fun k hk => by simp [Tm.ls] at hk⟩,fun hn => by simp [Tm.ls] at hn,RowIn.mk fun i hi => by simp [Tm.ts] at hi⟩
/-! A row of the call's own that is appended to in a loop whose round calls the function itself. -/
theorem own_below {w w' : World} {base e size n : Nat} {v : Value} {xs : List Value} (h : w.ownsRow base e size v n xs) (b : Below w.heap.size w w') : w'.ownsRow base e size v n xs := by
 obtain ⟨h1,h2 | ⟨g,cap,cur,hv,hb,hg,h3⟩⟩ := h
 ·exact ⟨h1,Or.inl h2⟩
 ·exact ⟨h1,Or.inr ⟨g,cap,cur,hv,hb,(b.block g (Array.getElem?_eq_some_iff.1 hg).1).trans hg,h3⟩⟩
theorem own_low {w : World} {base e size n : Nat} {v : Value} {xs : List Value} (h : w.ownsRow base e size v n xs) {k : Nat} (hk : v.ownBlock = some k) : base ≤ k ∧ k < w.heap.size := h.lt k hk
theorem row_below {w wr w4 w5 : World} {e size n : Nat} {v : Value} {xs : List Value} {o : Obj} (hb4 : Below wr.heap.size wr w4) (hown : wr.ownsRow (w.heap.size + 2) e size v n xs) (hg : (w4.alloc o).grownBy w5 v.ownBlock) (h2 : w.heap.size + 2 ≤ wr.heap.size) : Below (w.heap.size + 2) wr w5 := by
 have h1 := hb4.alloc hb4.size o
 refine ⟨hg.os.trans h1.os,hg.tape.trans h1.tape,hg.output.trans h1.output,Nat.le_trans h1.size hg.size,fun k hk => ?_⟩
 have hk2 : k < wr.heap.size := by omega
 rw [hg.block k (Nat.lt_of_lt_of_le hk2 h1.size) (fun he => by have := own_low hown he.symm; omega),h1.block k hk2]
def RowRel (B : Nat) (w : World) (o : Obj) (R : List Tm) (v i : Value) (wr : World) : Prop :=
 ∃ (j : Nat) (ps : List (Tm × Hd)),i = .int .i64 j ∧ j ≤ R.length ∧ ps.length = j ∧ ps.map (·.1) = R.take j ∧ Below w.heap.size w wr ∧ wr.heap[w.heap.size]? = some o ∧
   wr.heap[w.heap.size + 1]? = some (.cells #[.int .u8 0,.int .i64 0,.string ⟨#[]⟩,.slice none 0 0,.slice none 0 0] 27) ∧ wr.ownsRow (w.heap.size + 2) 27 5 v ps.length (flat ps) ∧
   ∀ p ∈ ps,FirmS (fun q => B ≤ q ∧ (q < w.heap.size + 2 ∨ v.ownBlock = some q)) wr p.1 p.2
theorem RowRel.step {B : Nat} {w : World} {o : Obj} {R : List Tm} {v i' : Value} {wr w4 w5 : World} {j g cap n' : Nat} {ps : List (Tm × Hd)} {y : Tm} {hy : Hd} {ob : Obj} {L : Nat} (hRl : R.length = L) (hRy : R[j]? = some y) (hlt : j < L) (hpl : ps.length = j) (hmap : ps.map (·.1) = R.take j)
 (hbel : Below w.heap.size w wr) (hbx : wr.heap[w.heap.size]? = some o) (hbr : wr.heap[w.heap.size + 1]? = some (.cells #[.int .u8 0,.int .i64 0,.string ⟨#[]⟩,.slice none 0 0,.slice none 0 0] 27)) (hown : wr.ownsRow (w.heap.size + 2) 27 5 v ps.length (flat ps))
 (hf : ∀ p ∈ ps,FirmS (fun q => B ≤ q ∧ (q < w.heap.size + 2 ∨ v.ownBlock = some q)) wr p.1 p.2) (hb4 : Below wr.heap.size wr w4) (hfy : FirmS (fun q => B ≤ q ∧ q < wr.heap.size) w4 y hy) (hBw : B ≤ w.heap.size) (h2 : w.heap.size + 2 ≤ wr.heap.size)
 (hn' : n' = ps.length + 1) (hown5 : w5.ownsRow (w.heap.size + 2) 27 5 (.slice (some ⟨g,0,none⟩) n' cap) n' (flat ps ++ (y.vals hy).toList)) (hgrow : (w4.alloc ob).grownBy w5 v.ownBlock) (hat : v.ownBlock = some g ∨ g = w4.heap.size + 1) (hi : i' = .int .i64 ((j + 1 : Nat) : Int)) :
 RowRel B w o R (.slice (some ⟨g,0,none⟩) n' cap) i' w5 := by
 subst hn'
 have h6 := row_below hb4 hown hgrow h2
 have h1 := hb4.alloc hb4.size ob
 have hz1 : wr.heap.size ≤ w4.heap.size := hb4.size
 have hz5 : w4.heap.size + 1 ≤ w5.heap.size := by have := hgrow.size; simpa using this
 refine ⟨j + 1,ps ++ [(y,hy)],hi,by omega,by simp [hpl],?_,hbel.trans (h6.mono (by omega)),(h6.block _ (by omega)).trans hbx,(h6.block _ (by omega)).trans hbr,by rw [flat_snoc,List.length_append]; exact hown5,?_⟩
 ·rw [List.map_append,hmap,List.take_add_one,hRy]; rfl
 ·intro p hp w' hr
  rcases List.mem_append.1 hp with hp | hp
  ·refine hf p hp w' ⟨hr.os.trans (h6.os),hr.tape.trans h6.tape,hr.output.trans h6.output,Nat.le_trans h6.size hr.size,fun k hk hn => ?_⟩
   have hn5 : w5.heap[k]? = wr.heap[k]? := by
    rw [hgrow.block k (by simp; omega) (fun he => hn ⟨by have := own_low hown he.symm; omega,Or.inr he.symm⟩),h1.block k hk]
   rw [← hn5]
   refine hr.block k (Nat.lt_of_lt_of_le hk h6.size) ?_
   rintro ⟨hq1,hq2 | hq2⟩
   ·exact hn ⟨hq1,Or.inl hq2⟩
   ·have hkg : g = k := by simpa [Value.ownBlock] using hq2
    subst hkg
    rcases hat with hat | hat
    ·exact hn ⟨hq1,Or.inr hat⟩
    ·omega
  ·simp at hp
   subst hp
   refine hfy w' ⟨hr.os.trans (hgrow.os),hr.tape.trans hgrow.tape,hr.output.trans hgrow.output,Nat.le_trans (by omega) hr.size,fun k hk hn => ?_⟩
   have hn5 : w5.heap[k]? = w4.heap[k]? := by
    rw [hgrow.block k (by simp; omega) (fun he => by have := own_low hown he.symm; exact hn ⟨by omega,by omega⟩)]
    exact (below_one w4 ob).block k hk
   rw [← hn5]
   refine hr.block k (by omega) ?_
   rintro ⟨hq1,hq2 | hq2⟩
   ·exact hn ⟨hq1,by omega⟩
   ·have hkg : g = k := by simpa [Value.ownBlock] using hq2
    subst hkg
    rcases hat with hat | hat
    ·have := own_low hown hat
     exact hn ⟨hq1,by omega⟩
    ·omega
end Trm
theorem with_any (k n : Int) (s : ByteArray) (lo to to' : Option Addr) (ll lc tl tc tl' tc' : Nat) (w : World) :
 Calls Tryz.prog 170 #[.agg #[.int .u8 k,.int .i64 n,.string s,.slice lo ll lc,.slice to tl tc],.slice to' tl' tc'] w fun e w' => e = .returned (.agg #[.int .u8 k,.int .i64 n,.string s,.slice lo ll lc,.slice to' tl' tc']) ∧ Below w.heap.size w w' := by
 go_enter Tryz.func170,Tryz.ntmps170
 go_wp2_with fail
 exact bodyPost_ret (v := .agg #[.int .u8 k,.int .i64 n,.string s,.slice lo ll lc,.slice to' tl' tc']) (by simp [results,Tryz.results170,go_sem]) rfl ⟨rfl,below_two _ _ _⟩
end Go.Proofs.YtiekbhlnnmnklaaGreat
