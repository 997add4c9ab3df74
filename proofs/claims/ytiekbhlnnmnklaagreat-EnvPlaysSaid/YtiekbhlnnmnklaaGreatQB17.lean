/-
 battenref04.Levels,of a term that may be.
-/
import Derived.Lib.Hide
import Derived.Test.YtiekbhlnnmnklaaGreatQB11
import Derived.Test.YtiekbhlnnmnklaaGreatQB15
import Derived.Test.YtiekbhlnnmnklaaGreatQB16
import Derived.Test.YtiekbhlnnmnklaaGreatQB1
import Derived.Test.YtiekbhlnnmnklaaGreatQB2
open Go.Lib (hid)
set_option maxRecDepth 100000
set_option maxHeartbeats 32000000
namespace Go.Proofs.YtiekbhlnnmnklaaGreat
open Go.RowKit Go.Shelf Lvl Trm
namespace Trm
def errL (L : List Lv) : List Lv → Int
 | [] => 0
 | l :: r => if (inst l L).2 = 0 then errL L r else (inst l L).2
mutual
def Tm.lerr (L : List Lv) : Tm → Int
 | .mk _ _ _ ls ts => if errL L ls = 0 then lerrL L ts else errL L ls
def lerrL (L : List Lv) : List Tm → Int
 | [] => 0
 | t :: r => if t.lerr L = 0 then lerrL L r else t.lerr L
end
theorem Tm.lerr_eq (L : List Lv) (t : Tm) : t.lerr L = if errL L t.ls = 0 then lerrL L t.ts else errL L t.ls := by cases t; rw [Tm.lerr]; rfl
def levB (L : List Lv) (t : Tm) : Tm × Int := if t.lerr L = 0 then (t.lmap (fL L),0) else (zeroT,t.lerr L)
theorem lmap_eq (f : Lv → Lv) (t : Tm) : t.lmap f = .mk t.k t.n t.s (t.ls.map f) (lmapL f t.ts) := by cases t; rw [Tm.lmap]; rfl
theorem lmapL_map (f : Lv → Lv) : ∀ ts : List Tm,lmapL f ts = ts.map (fun t => t.lmap f)
 | [] => by rw [lmapL]; rfl
 | t :: r => by rw [lmapL,lmapL_map f r]; rfl
theorem errL_drop {L : List Lv} {ls : List Lv} {j : Nat} (h : j < ls.length) : errL L (ls.drop j) = if (inst ls[j] L).2 = 0 then errL L (ls.drop (j + 1)) else (inst ls[j] L).2 := by
 rw [List.drop_eq_getElem_cons h,errL]
theorem lerrL_drop {L : List Lv} {ts : List Tm} {j : Nat} (h : j < ts.length) : lerrL L (ts.drop j) = if ts[j].lerr L = 0 then lerrL L (ts.drop (j + 1)) else ts[j].lerr L := by
 rw [List.drop_eq_getElem_cons h,lerrL]
def LvRel1 (L : List Lv) (w1 : World) (ls : List Lv) (E : Int) (v i : Value) (wr : World) : Prop := RowL w1 (ls.map (fL L)) v i wr ∧ ∃ j : Nat,i = .int .i64 j ∧ errL L (ls.drop j) = E
def LvRel2 (L : List Lv) (B : Nat) (w2 : World) (ts : List Tm) (E : Int) (v i : Value) (wr : World) : Prop := RowG B w2 (lmapL (fL L) ts) v i wr ∧ ∃ j : Nat,i = .int .i64 j ∧ lerrL L (ts.drop j) = E
def LevPost (B : Nat) (w : World) (a : Tm × Int) (e : Ending) (w' : World) : Prop := ∃ h',e = .returned (.tuple #[a.1.val h',.int .i64 a.2]) ∧ FirmS (fun q => B ≤ q ∧ q < w.heap.size) w' a.1 h' ∧ Below w.heap.size w w'
end Trm
theorem RefLevels_any (L : List Lv) (bo : Option Addr) (bc : Nat) (hL : L.length ≤ 1000000) (B : Nat) (t : Tm) : ∀ (h : Hd) (d : Int) (w : World),OkMay t d → t.In B w h → LRow w bo L → Low B bo L.length → B ≤ w.heap.size →
 Calls Tryz.prog 119 #[t.val h,.slice bo L.length bc] w (LevPost B w (levB L t)) := by
 induction t using Tm.ind with
 | h t ih =>
   intro h d w hok hin hrow hlo hBw
   have HIN := hid hin
   have HIH := hid ih
   have HOK := hid hok
   have HRW := hid hrow
   have HLO := hid hlo
   have hd1 := hok.node.2
   have hf3 := (node_few hok.node.1).2.1
   have hl4 : t.ls.length ≤ 4 := by
    have h0 := hok.node.1
    unfold Tm.node at h0
    simp only [Bool.and_eq_true] at h0
    have h6 := h0.2
    split at h6
    ·simp at h6; omega
    ·split at h6
     ·simp at h6; omega
     ·simp at h6; rw [h6]; simp
   obtain ⟨G,hG⟩ : ∃ G,G = t.ls.map (fL L) := ⟨_,rfl⟩
   have hGl : G.length = t.ls.length := by rw [hG,List.length_map]
   obtain ⟨R,hR⟩ : ∃ R,R = lmapL (fL L) t.ts := ⟨_,rfl⟩
   have hRl : R.length = t.ts.length := by rw [hR,lmapL_map,List.length_map]
   obtain ⟨E1,hE1⟩ : ∃ E1,E1 = errL L t.ls := ⟨_,rfl⟩
   obtain ⟨E2,hE2⟩ : ∃ E2,E2 = lerrL L t.ts := ⟨_,rfl⟩
   have HA1 : Hid (E1 ≠ 0 → levB L t = (zeroT,E1)) := hid (fun hh => by
    unfold levB
    rw [Tm.lerr_eq,← hE1,if_neg hh,if_neg hh])
   have HA2 : Hid (E1 = 0 → E2 ≠ 0 → levB L t = (zeroT,E2)) := hid (fun h1 hh => by
    unfold levB
    rw [Tm.lerr_eq,← hE1,if_pos h1,← hE2,if_neg hh])
   have HA3 : Hid (E1 = 0 → E2 = 0 → levB L t = (.mk t.k t.n t.s G R,0)) := hid (fun h1 hh => by
    unfold levB
    rw [Tm.lerr_eq,← hE1,if_pos h1,← hE2,if_pos hh,lmap_eq,← hG,← hR])
   obtain ⟨A,hA⟩ : ∃ A,A = levB L t := ⟨_,rfl⟩
   rw [← hA] at HA1 HA2 HA3 ⊢
   clear hA
   have HGL := hid hGl
   have HRL := hid hRl
   have HG := hid hG
   have HR := hid hR
   have HE1 := hid hE1
   have HE2 := hid hE2
   have HF3 := hid hf3
   have HL4 := hid hl4
   obtain ⟨i0,hi,hz0,hz1,hz2⟩ := info_parts infoT
   obtain ⟨i1,hi',hz0',hz1',hz2'⟩ := info_parts infoL
   obtain ⟨w1,hw1⟩ : ∃ w1,w1 = (w.alloc (t.box h)).alloc (.cells #[.int .u8 0,.int .i64 0,.string ⟨#[]⟩,.slice none 0 0,.slice none 0 0] 27) := ⟨_,rfl⟩
   have HW1 := hid hw1
   have HB1 := hid (show Below w.heap.size w w1 from hw1 ▸ below_two w _ _)
   have HX1 := hid (show w1.heap[w.heap.size]? = some (t.box h) from hw1 ▸ new1of2 w _ _)
   have HZ1 := hid (show w1.heap[w.heap.size + 1]? = some (.cells #[.int .u8 0,.int .i64 0,.string ⟨#[]⟩,.slice none 0 0,.slice none 0 0] 27) from hw1 ▸ new2 w _ _)
   have hs1 : w1.heap.size = w.heap.size + 2 := by rw [hw1]; simp
   clear ih hok hin hrow hlo hw1 hG hR hE1 hE2 hGl hRl hd1
   unfold Tm.val Tm.vals
   go_enter Tryz.func119,Tryz.ntmps119
   go_wp2_with fail
   go_loopw [6,7] (fun v i wr => LvRel1 L w1 t.ls E1 v i wr) (fun _ i _ => t.ls.length - (intOf i).toNat)
   case atStart => exact ⟨HW1.out ▸ RowL.start _ _,0,rfl,HE1.out.symm⟩
   case round =>
    obtain ⟨⟨j,rfl,hj,hbel,hown⟩,j',hjj,hE⟩ := hrel
    have hjj2 : j = j' := by injection hjj with _ h2; omega
    subst hjj2
    have HBEL := hid hbel
    have HOW := hid hown
    have HE := hid hE
    have hzr := hbel.size
    rw [List.length_map] at hj
    have HBW := hid (show Below w.heap.size w wr from HB1.out.trans (hbel.mono (by omega)))
    have HX := hid (show wr.heap[w.heap.size]? = some (t.box h) from (hbel.block _ (by omega)).trans HX1.out)
    have HZ := hid (show wr.heap[w.heap.size + 1]? = some (.cells #[.int .u8 0,.int .i64 0,.string ⟨#[]⟩,.slice none 0 0,.slice none 0 0] 27) from (hbel.block _ (by omega)).trans HZ1.out)
    clear hbel hown hE hjj
    obtain ⟨c0,c1,c2,c3,c4⟩ := Tm.cells HX.out
    by_cases hlt : j < t.ls.length
    ·have HLR := LRow.low HIN.out.levels (Tm.In_iff.1 HIN.out).2.2.1 (HBW.out.mono hBw)
     have hLow := (Tm.In_iff.1 HIN.out).2.2.1
     obtain ⟨b,off,hao,k0,k1,k2,k3,k4⟩ := HLR.place j hlt
     rw [hao] at c3
     have HAO := hid hao
     have hb : b < B := hLow (by omega) _ hao
     have hbz : b < wr.heap.size := by omega
     have HI := hid (fun (W : World) (hW : Below wr.heap.size wr W) => RefInst_any t.ls[j] bo bc L W (LRow.low HRW.out HLO.out ((HBW.out.mono hBw).trans (hW.mono (by omega)))) (fun a ha h0 => by have := HLO.out h0 a ha; have := hW.size; omega) hL)
     have HEJ : Hid (E1 = if (inst t.ls[j] L).2 = 0 then errL L (t.ls.drop (j + 1)) else (inst t.ls[j] L).2) := hid (by rw [← HE.out]; exact errL_drop hlt)
     have HGJ : Hid (G[j]? = some (inst t.ls[j] L).1) := hid (by rw [HG.out,List.getElem?_map,List.getElem?_eq_getElem hlt]; rfl)
     clear HLR hLow hao
     generalize hxx : inst t.ls[j] L = xe at HI HEJ HGJ
     obtain ⟨y,e⟩ := xe
     dsimp only at HI HEJ HGJ
     generalize t.ls[j] = x at k0 k1 k2 k3 k4 HI hxx
     unfold Lv.val at HI
     clear hxx
     go_wp2_with fail
     refine (HI.out _ (Below.refl _ _)).mono ?_
     rintro e' w3 ⟨rfl,b3⟩
     obtain ⟨w4,hw4⟩ : ∃ w4,w4 = w3.alloc (.cells #[.int .i64 y.c,.int .i64 y.p0,.int .i64 y.p1,.int .i64 y.p2,.int .i64 y.p3] 61) := ⟨_,rfl⟩
     have hy4 := hw4 ▸ World.alloc_heap_new w3 (.cells #[.int .i64 y.c,.int .i64 y.p0,.int .i64 y.p1,.int .i64 y.p2,.int .i64 y.p3] 61)
     have hb34 : Below w3.heap.size w3 w4 := hw4 ▸ below_one _ _
     have HB4 := hid (Trm.go b3 hb34)
     have HBW4 := hid (Trm.go HBW.out HB4.out)
     have HZ4 := hid (Lvl.keep HB4.out HZ.out)
     obtain ⟨y0,y1,y2,y3,y4⟩ := five_cells hy4
     have hly4 : w3.heap.size < w4.heap.size := (Array.getElem?_eq_some_iff.1 hy4).1
     clear b3 hb34 hy4 c0 c1 c2 c3 c4 k0 k1 k2 k3 k4
     have EW : Hid (w3.alloc (.cells #[.int .i64 y.c,.int .i64 y.p0,.int .i64 y.p1,.int .i64 y.p2,.int .i64 y.p3] 61) = w4) := hid hw4.symm
     clear hw4
     by_cases he : e = 0
     ·subst he
      have HEN : Hid (errL L (t.ls.drop (j + 1)) = E1) := hid (by rw [HEJ.out,if_pos rfl])
      clear HEJ
      go_upto_region 8 with fail
      rw [EW.out]
      clear EW
      have hq2 : (j + 1) * 40 ≤ 140737488355328 := by omega
      go_wp2_with (at_builtin; refine wpList_append_lies _ rfl _ _ 24 rfl w1.heap.size 61 i1 _ 5 40 Tryz.underlying24 hi' hz0' hz1' hz2' rfl (by decide) _ _ _ rfl (own_below HOW.out (HB4.out.alloc HB4.out.size _)) ⟨w4.heap.size,0,none⟩ 1 1 y.list5 rfl rfl ?c1 ?c2 (by decide) ?c3 hq2 ?c4 (w4.heap.size + 1) ?c5 ?_)
      case c1 => exact World.news_of_block (cs := #[.int .i64 y.c,.int .i64 y.p0,.int .i64 y.p1,.int .i64 y.p2,.int .i64 y.p3]) (t := 61) (fr := (0,0)) (World.alloc_heap_new w4 _)
      case c2 => simp [Lv.list5,Value.oneCell']
      case c3 => unfold maxLen; omega
      case c4 => have := HB4.out.size; simp; omega
      case c5 => simp
      intro g cap w5 hown5 hgrow hat5 hlt5
      have hl4 := HL4.out
      go_wp2_with fail
      go_roundw
      case rel =>
       rw [← hs1] at hown5
       exact ⟨RowL.step (by rw [← HG.out]; exact HGJ.out) (by rw [List.length_map]; exact hlt) HBEL.out HOW.out HB4.out rfl hown5 hgrow (by go_num),j + 1,by go_num,HEN.out⟩
      case measure => simp [intOf]; omega
     ·have hne : (e != 0) = true := by simpa using he
      have HEE : Hid (A = (zeroT,e)) := hid (by
       have h0 := HEJ.out
       rw [if_neg he] at h0
       have h1 := HA1.out (by rw [h0]; exact he)
       rw [h0] at h1
       exact h1)
      clear HEJ he
      go_upto_region 7 with fail
      rw [EW.out]
      clear EW
      obtain ⟨q0,q1,q2,q3,q4⟩ := five_cells HZ4.out
      obtain ⟨f0,f1,f2,f3,f4⟩ := five_free HZ4.out
      have hlz : w.heap.size + 1 < w4.heap.size := (Array.getElem?_eq_some_iff.1 HZ4.out).1
      go_wp2_with fail
      have h5 := putT_self HZ4.out (.int .u8 0) (.int .i64 0) (.string ⟨#[]⟩) (.slice none 0 0) (.slice none 0 0)
      have b5 := putT_below HBW4.out (by omega : w.heap.size ≤ w.heap.size + 1) (.int .u8 0) (.int .i64 0) (.string ⟨#[]⟩) (.slice none 0 0) (.slice none 0 0)
      unfold putT at h5 b5
      generalize hW : (((((w4.setCell ⟨w.heap.size + 1,0,none⟩ (.int .u8 0)).setCell ⟨w.heap.size + 1,1,none⟩ (.int .i64 0)).setCell ⟨w.heap.size + 1,2,none⟩ (.string ⟨#[]⟩)).setCell ⟨w.heap.size + 1,3,none⟩ (.slice none 0 0)).setCell ⟨w.heap.size + 1,4,none⟩ (.slice none 0 0)) = W4 at h5 b5 ⊢
      obtain ⟨g0,g1,g2,g3,g4⟩ := five_cells h5
      clear hW
      exact bodyPost_ret (v := .tuple #[zeroT.val ⟨none,0,none,0⟩,.int .i64 e]) (by simp [results,Tryz.results119,go_sem,g0,g1,g2,g3,g4,zeroT,Tm.val,Tm.vals,Tm.k,Tm.n,Tm.s,Tm.ls,Tm.ts,no]) rfl (HEE.out ▸ ⟨⟨none,0,none,0⟩,rfl,firm_zero,b5⟩)
    ·have HJE : Hid (j = t.ls.length) := hid (by omega)
     have HE0 : Hid (E1 = 0) := hid (by
      have h0 := HE.out
      rw [List.drop_eq_nil_of_le (by have := HJE.out; omega),errL] at h0
      exact h0.symm)
     have hGt : (t.ls.map (fL L)).take j = G := by rw [← HG.out]; exact List.take_of_length_le (by have := HGL.out; have := HJE.out; omega)
     obtain ⟨ao,cap,rfl,hLG,hab⟩ := row_of_own (by rw [hGt]; have := HGL.out; have := HJE.out; omega) HOW.out
     rw [hGt] at hLG
     rw [show ((t.ls.map (fL L)).take j).length = G.length by rw [hGt]]
     have HLG := hid hLG
     have HAB := hid hab
     have h4 : wr.heap[w.heap.size]? = some (.cells #[.int .u8 t.k,.int .i64 t.n,.string t.s,.slice h.lo t.ls.length h.lc,.slice h.to t.ts.length h.tc] 27) := HX.out
     have h5 : (wr.setCell ⟨w.heap.size,3,none⟩ (.slice ao G.length cap)).heap[w.heap.size]? = some (.cells #[.int .u8 t.k,.int .i64 t.n,.string t.s,.slice ao G.length cap,.slice h.to t.ts.length h.tc] 27) := by
      simp [World.setCell,Array.getElem?_modify,h4]
     have r5 := Ran.set wr w.heap.size 3 (.slice ao G.length cap)
     obtain ⟨f0,f1,f2,f3,f4⟩ := five_free h4
     have hlx : w.heap.size < wr.heap.size := by omega
     clear hLG hab hGt h4
     go_upto_region 10 with fail
     generalize hW : wr.setCell ⟨w.heap.size,3,none⟩ (.slice ao G.length cap) = w2 at h5 r5 ⊢
     have HW2 := hid (show Below w.heap.size w w2 from HBW.out.trans (r5.below (Nat.le_refl _) (by omega)))
     have HX2 := hid h5
     have HZ2 := hid (r5.keep HZ.out (by omega))
     have hs2 : w2.heap.size = wr.heap.size := by rw [← hW]; simp [World.setCell]
     have HS2 := hid hs2
     have HLG2 := hid (LRow.ranS HLG.out (RanS.of_ran (P := fun q => q = w.heap.size) r5 rfl) (fun x hx => by have := HAB.out x hx; exact ⟨this.2,by omega⟩))
     clear hW h5 r5 f0 f1 f2 f3 f4 c0 c1 c2 c3 c4 hs2
     go_wp2_with fail
     go_loopw [10,11] (fun v i wr => LvRel2 L B w2 t.ts E2 v i wr) (fun _ i _ => t.ts.length - (intOf i).toNat)
     case atStart => exact ⟨RowG.start _ _ _,0,rfl,HE2.out.symm⟩
     case round =>
      obtain ⟨⟨m,ps,rfl,hm,hpl,hmap,hbel,hown,hf⟩,m',hmm,hE⟩ := hrel
      have hmm2 : m = m' := by injection hmm with _ h2; omega
      subst hmm2
      have HBEL2 := hid hbel
      have HOW2 := hid hown
      have HF := hid hf
      have HPL := hid hpl
      have HEM := hid hE
      have hzr2 := hbel.size
      have hm1 : m ≤ t.ts.length := by rw [← HR.out,HRL.out] at hm; exact hm
      have HBW2 := hid (show Below w.heap.size w wr from HW2.out.trans (hbel.mono (by have := HW2.out.size; omega)))
      have hltz : w.heap.size + 1 < w2.heap.size := (Array.getElem?_eq_some_iff.1 HZ2.out).1
      have HX3 := hid (show wr.heap[w.heap.size]? = some (.cells #[.int .u8 t.k,.int .i64 t.n,.string t.s,.slice ao G.length cap,.slice h.to t.ts.length h.tc] 27) from (hbel.block _ (by omega)).trans HX2.out)
      have HZ3 := hid (show wr.heap[w.heap.size + 1]? = some (.cells #[.int .u8 0,.int .i64 0,.string ⟨#[]⟩,.slice none 0 0,.slice none 0 0] 27) from (hbel.block _ (by omega)).trans HZ2.out)
      have HRG : Hid (R = lmapL (fL L) t.ts) := HR
      rw [← HRG.out] at hmap
      have HMAP2 := hid hmap
      clear hm hmap hbel hown hf hE hmm
      obtain ⟨c0,c1,c2,c3,c4⟩ := five_cells HX3.out
      by_cases hlt : m < t.ts.length
      ·obtain ⟨b,off,hao,hat⟩ := HIN.out.kid m hlt
       obtain ⟨hb,hd',hcx,hin'⟩ := hat.below (HBW2.out.mono hBw)
       rw [hao] at c4
       have HI := hid hin'
       have HX := hid (fun (W : World) (hW : Below wr.heap.size wr W) => HIH.out _ (List.getElem_mem hlt) hd' (d + 1) W (HOK.out.down _ (List.getElem_mem hlt)) (Tm.In.below (hW.mono (by omega)) _ _ HI.out) (LRow.low HRW.out HLO.out ((HBW2.out.mono hBw).trans (hW.mono (by omega)))) HLO.out (by have := hW.size; omega))
       have HEJ : Hid (E2 = if t.ts[m].lerr L = 0 then lerrL L (t.ts.drop (m + 1)) else t.ts[m].lerr L) := hid (by rw [← HEM.out]; exact lerrL_drop hlt)
       have HRJ : Hid (R[m]? = some (t.ts[m].lmap (fL L))) := hid (by rw [HRG.out,lmapL_map,List.getElem?_map,List.getElem?_eq_getElem hlt]; rfl)
       have HLB : Hid (t.ts[m].lerr L = 0 → levB L t.ts[m] = (t.ts[m].lmap (fL L),0)) := hid (fun hh => by unfold levB; rw [if_pos hh])
       have HLC : Hid (t.ts[m].lerr L ≠ 0 → (levB L t.ts[m]).2 = t.ts[m].lerr L) := hid (fun hh => by unfold levB; rw [if_neg hh])
       obtain ⟨k0,k1,k2,k3,k4⟩ := hcx
       have hbz : b < wr.heap.size := by omega
       clear hat hin' hao
       generalize t.ts[m].lmap (fL L) = z at HRJ HLB
       generalize t.ts[m].lerr L = e at HEJ HLB HLC
       generalize levB L t.ts[m] = ye at HX HLB HLC
       generalize t.ts[m] = x at k0 k1 k2 k3 k4 HX HI
       obtain ⟨y,e'⟩ := ye
       delta LevPost at HX
       dsimp only at HX HLB HLC
       unfold Tm.val at HX
       dsimp only [Tm.vals] at HX
       go_wp2_with fail
       refine (HX.out _ (Below.refl _ _)).mono ?_
       rintro e3 w3 ⟨hy,rfl,fY,b3⟩
       obtain ⟨w4,hw4⟩ : ∃ w4,w4 = w3.alloc (.cells #[.int .u8 y.k,.int .i64 y.n,.string y.s,.slice hy.lo y.ls.length hy.lc,.slice hy.to y.ts.length hy.tc] 27) := ⟨_,rfl⟩
       have hy4 := hw4 ▸ World.alloc_heap_new w3 (.cells #[.int .u8 y.k,.int .i64 y.n,.string y.s,.slice hy.lo y.ls.length hy.lc,.slice hy.to y.ts.length hy.tc] 27)
       have hb34 : Below w3.heap.size w3 w4 := hw4 ▸ below_one _ _
       have HB4 := hid (Trm.go b3 hb34)
       have HFY := hid (show FirmS (fun q => B ≤ q ∧ q < wr.heap.size) w4 y hy from (fY.step (RanS.of_below hb34)))
       have HBW4 := hid (Trm.go HBW2.out HB4.out)
       have HZ4 := hid (Lvl.keep HB4.out HZ3.out)
       obtain ⟨y0,y1,y2,y3,y4⟩ := five_cells hy4
       have hly4 : w3.heap.size < w4.heap.size := (Array.getElem?_eq_some_iff.1 hy4).1
       clear b3 hb34 hy4 fY c0 c1 c2 c3 c4 k0 k1 k2 k3 k4
       have EW : Hid (w3.alloc (.cells #[.int .u8 y.k,.int .i64 y.n,.string y.s,.slice hy.lo y.ls.length hy.lc,.slice hy.to y.ts.length hy.tc] 27) = w4) := hid hw4.symm
       clear hw4
       by_cases he : e = 0
       ·subst he
        have hye := HLB.out rfl
        injection hye with hye1 hye2
        subst hye1 hye2
        have HEN : Hid (lerrL L (t.ts.drop (m + 1)) = E2) := hid (by rw [HEJ.out,if_pos rfl])
        have hpm : ps.length ≤ 3 := by rw [HPL.out]; omega
        have hq2 : (ps.length + 1) * 80 ≤ 140737488355328 := by omega
        clear HEJ HLB HLC
        go_upto_region 17 with fail
        rw [EW.out]
        clear EW
        go_wp2_with (at_builtin; refine wpList_append_lies _ rfl _ _ 25 rfl w2.heap.size 27 i0 _ 5 80 Tryz.underlying25 hi hz0 hz1 hz2 rfl (by decide) _ _ _ rfl (own_below HOW2.out (HB4.out.alloc HB4.out.size _)) ⟨w4.heap.size,0,none⟩ 1 1 (y.vals hy).toList rfl rfl ?c1 ?c2 (by decide) ?c3 hq2 ?c4 (w4.heap.size + 1) ?c5 ?_)
        case c1 => exact World.news_of_block (cs := y.vals hy) (t := 27) (fr := (0,0)) (World.alloc_heap_new w4 _)
        case c2 => simp [Tm.vals,Value.oneCell']
        case c3 => unfold maxLen; omega
        case c4 => have := HB4.out.size; simp; omega
        case c5 => simp
        intro g cap' w5 hown5 hgrow hat5 hlt5
        go_wp2_with fail
        go_roundw
        case rel =>
         exact ⟨by rw [← HRG.out]; exact RowG.step HRL.out HRJ.out hlt HPL.out HMAP2.out HBEL2.out HOW2.out HF.out HB4.out HFY.out (by have := HW2.out.size; omega) (by rw [HPL.out]) hown5 hgrow hat5 (by go_num),m + 1,by go_num,HEN.out⟩
        case measure => simp [intOf]; omega
       ·have hee : e' = e := HLC.out he
        subst hee
        have hne : (e' != 0) = true := by simpa using he
        have HEE : Hid (A = (zeroT,e')) := hid (by
         have h0 := HEJ.out
         rw [if_neg he] at h0
         have h1 := HA2.out HE0.out (by rw [h0]; exact he)
         rw [h0] at h1
         exact h1)
        clear HEJ HLB HLC he
        go_upto_region 16 with fail
        rw [EW.out]
        clear EW
        obtain ⟨q0,q1,q2,q3,q4⟩ := five_cells HZ4.out
        obtain ⟨f0,f1,f2,f3,f4⟩ := five_free HZ4.out
        have hlz : w.heap.size + 1 < w4.heap.size := (Array.getElem?_eq_some_iff.1 HZ4.out).1
        go_wp2_with fail
        have h5 := putT_self HZ4.out (.int .u8 0) (.int .i64 0) (.string ⟨#[]⟩) (.slice none 0 0) (.slice none 0 0)
        have b5 := putT_below HBW4.out (by omega : w.heap.size ≤ w.heap.size + 1) (.int .u8 0) (.int .i64 0) (.string ⟨#[]⟩) (.slice none 0 0) (.slice none 0 0)
        unfold putT at h5 b5
        generalize hW : (((((w4.setCell ⟨w.heap.size + 1,0,none⟩ (.int .u8 0)).setCell ⟨w.heap.size + 1,1,none⟩ (.int .i64 0)).setCell ⟨w.heap.size + 1,2,none⟩ (.string ⟨#[]⟩)).setCell ⟨w.heap.size + 1,3,none⟩ (.slice none 0 0)).setCell ⟨w.heap.size + 1,4,none⟩ (.slice none 0 0)) = W4 at h5 b5 ⊢
        obtain ⟨g0,g1,g2,g3,g4⟩ := five_cells h5
        clear hW
        exact bodyPost_ret (v := .tuple #[zeroT.val ⟨none,0,none,0⟩,.int .i64 e']) (by simp [results,Tryz.results119,go_sem,g0,g1,g2,g3,g4,zeroT,Tm.val,Tm.vals,Tm.k,Tm.n,Tm.s,Tm.ls,Tm.ts,no]) rfl (HEE.out ▸ ⟨⟨none,0,none,0⟩,rfl,firm_zero,b5⟩)
      ·have hje : m = t.ts.length := by omega
       have HE20 : Hid (E2 = 0) := hid (by
        have h0 := HEM.out
        rw [List.drop_eq_nil_of_le (by omega),lerrL] at h0
        exact h0.symm)
       have hAA := HA3.out HE0.out HE20.out
       have hfit := HIN.out.fit
       have HLG3 := hid (LRow.ranS HLG2.out (RanS.of_below (P := fun _ => False) (HBEL2.out.mono (Nat.le_refl _))) (fun x hx => ⟨by have := HAB.out x hx; have := HS2.out; omega,fun hh => hh⟩))
       obtain ⟨to,tc,rfl,hfn⟩ := firm_nodeG (P := fun q => B ≤ q ∧ q < w.heap.size + 2) (Q := fun q => B ≤ q ∧ (q < w2.heap.size ∨ u10.ownBlock = some q)) (k := t.k) (n := t.n) (s := t.s) (ls := G) (lo := ao) (lc := cap) HOW2.out hfit.k0 hfit.k1 hfit.n0 hfit.n1 hfit.s (by have := HGL.out; have := HL4.out; omega) HLG3.out (fun x hx => by have := HAB.out x hx; have := HS2.out; have := HBEL2.out.size; exact ⟨by omega,fun hh => by omega⟩) (fun q hq => by have := hq.2; omega) (fun q hq => ⟨hq.1,Or.inl (by have := hq.2; omega)⟩) HF.out (by have := HPL.out; omega)
       have hps : ps.map (·.1) = R := by rw [HMAP2.out]; exact List.take_of_length_le (by have := HRL.out; omega)
       rw [hps] at hfn
       have HFN := hid hfn
       have hyl : ps.length = R.length := by rw [HRL.out,HPL.out,hje]
       rw [hyl]
       clear hfit hfn hps hpl hyl
       go_wp2_with fail
       refine (with_any _ _ _ _ _ _ _ _ _ _ _ _ _).mono ?_
       rintro e6 w6 ⟨rfl,b6⟩
       have HB6 := hid (Trm.go HBW2.out b6)
       have HR6 := hid (Lvl.keep b6 HZ3.out)
       have HF6 := hid (HFN.out.step (RanS.of_below b6))
       obtain ⟨a0,a1,a2,a3,a4⟩ := five_cells HR6.out
       obtain ⟨f0,f1,f2,f3,f4⟩ := five_free HR6.out
       have hz6 := b6.size
       have hl6 : w.heap.size + 1 < w6.heap.size := (Array.getElem?_eq_some_iff.1 HR6.out).1
       clear b6 c0 c1 c2 c3 c4
       go_wp2_with fail
       have h5 := putT_self HR6.out (.int .u8 t.k) (.int .i64 t.n) (.string t.s) (.slice ao G.length cap) (.slice to R.length tc)
       have b5 := putT_below HB6.out (by omega : w.heap.size ≤ w.heap.size + 1) (.int .u8 t.k) (.int .i64 t.n) (.string t.s) (.slice ao G.length cap) (.slice to R.length tc)
       have r5 := putT_ran w6 (w.heap.size + 1) (.int .u8 t.k) (.int .i64 t.n) (.string t.s) (.slice ao G.length cap) (.slice to R.length tc)
       unfold putT at h5 b5 r5
       generalize hW : (((((w6.setCell ⟨w.heap.size + 1,0,none⟩ (.int .u8 t.k)).setCell ⟨w.heap.size + 1,1,none⟩ (.int .i64 t.n)).setCell ⟨w.heap.size + 1,2,none⟩ (.string t.s)).setCell ⟨w.heap.size + 1,3,none⟩ (.slice ao G.length cap)).setCell ⟨w.heap.size + 1,4,none⟩ (.slice to R.length tc)) = W4 at h5 b5 r5 ⊢
       obtain ⟨g0,g1,g2,g3,g4⟩ := five_cells h5
       clear hW
       exact bodyPost_ret (v := .tuple #[(Tm.mk t.k t.n t.s G R).val ⟨ao,cap,to,tc⟩,.int .i64 0]) (by simp [results,Tryz.results119,go_sem,g0,g1,g2,g3,g4,Tm.val,Tm.vals,Tm.k,Tm.n,Tm.s,Tm.ls,Tm.ts]) rfl (hAA ▸ ⟨⟨ao,cap,to,tc⟩,rfl,(HF6.out.step (RanS.of_ran r5 ⟨by omega,by omega⟩)).less (fun q _ hq => ⟨hq.1,by have := hq.2; omega⟩),b5⟩)
end Go.Proofs.YtiekbhlnnmnklaaGreat
namespace Go.Proofs.YtiekbhlnnmnklaaGreat
open Go.RowKit Go.Shelf Lvl Trm
namespace Trm
mutual
theorem thr_err {L : List Lv} : ∀ (t : Tm) (y : List Lv) (d u : Int),OkMay t d → LGood L y → (t.thr lfLev y u).2.1 = t.lerr L
 | .mk k n s ls ts,y,d,u,ho,hy => by
   rw [Tm.thr,Tm.lerr]
   by_cases hts : ts.isEmpty = true
   ·rw [if_pos hts]
    have h0 : ts = [] := List.isEmpty_iff.1 hts
    subst h0
    show (levL ls y).2.1 = _
    rw [levL_err ls y hy,lerrL]
    split
    ·assumption
    ·rfl
   ·rw [if_neg hts]
    have hls : ls = [] := node_inner ho.node.1 (show ts ≠ [] by simpa using hts)
    subst hls
    rw [if_pos (show errL L [] = 0 from rfl)]
    unfold fin
    exact thrL_err k ts y (d + 1) u (fun x hx => ho.down x hx) hy
theorem thrL_err {L : List Lv} (k : Int) : ∀ (ts : List Tm) (y : List Lv) (d u : Int),(∀ x ∈ ts,OkMay x d) → LGood L y → (thrL lfLev k ts y u).2.1 = lerrL L ts
 | [],y,d,u,_,hy => by rw [thrL,lerrL]
 | t :: r,y,d,u,ho,hy => by
   have h1 := thr_err (L := L) t y d (und k r.isEmpty u) (ho t (by simp)) hy
   rw [thrL,lerrL]
   by_cases he : (t.thr lfLev y (und k r.isEmpty u)).2.1 = 0
   ·rw [if_pos he,if_pos (by rw [← h1]; exact he)]
    exact thrL_err k r _ d _ (fun x hx => ho x (by simp [hx])) (((thr_lev (L := L) t y d (und k r.isEmpty u) (ho t (by simp)) hy).2 he).1)
   ·rw [if_neg he,if_neg (by rw [← h1]; exact he)]
    exact h1
theorem levL_err {L : List Lv} : ∀ (ls y : List Lv),LGood L y → (levL ls y).2.1 = errL L ls
 | [],y,_ => by rw [levL]; rfl
 | l :: r,y,hy => by
   rw [levL,errL]
   have e := hy.inst l
   by_cases ho : (inst l y).2 = 0
   ·rw [if_pos ho,if_pos (by rw [← e]; exact ho)]
    exact levL_err r _ (hy.next ho)
   ·rw [if_neg ho,if_neg (by rw [← e]; exact ho),e]
end
end Trm
end Go.Proofs.YtiekbhlnnmnklaaGreat
namespace Go.Proofs.YtiekbhlnnmnklaaGreat
open Go.RowKit Go.Shelf Lvl
theorem zero_any (w : World) : Calls Tryz.prog 209 #[] w fun e w' => e = .returned (number 0).val ∧ Below w.heap.size w w' := by
 have HZ := hid (World.alloc_heap_new w zero.box)
 go_enter Tryz.func209,Tryz.ntmps209
 go_wp2_with fail
 refine (number_any _ _).mono ?_
 rintro e w1 ⟨rfl,b1⟩
 have HR := hid (keep b1 HZ.out)
 have B1 := hid ((below_one w zero.box).trans (b1.mono (by simp)))
 obtain ⟨d0,d1,d2,d3,d4⟩ := Lv.cells HR.out
 obtain ⟨f0,f1,f2,f3,f4⟩ := Lv.frees HR.out
 clear b1
 dsimp only [number,Lv.val]
 go_wp2_with fail
 have h5 := put5_self HR.out (number 0)
 have b5 := put5_below B1.out (B := w.heap.size) (by omega) (number 0)
 generalize hW : (((((w1.setCell ⟨w.heap.size,0,none⟩ (.int .i64 0)).setCell ⟨w.heap.size,1,none⟩ (.int .i64 (-1))).setCell ⟨w.heap.size,2,none⟩ (.int .i64 (-1))).setCell ⟨w.heap.size,3,none⟩ (.int .i64 (-1))).setCell ⟨w.heap.size,4,none⟩ (.int .i64 (-1))) = W4
 rw [show put5 w1 (w.heap.size) (number 0) = W4 from hW] at h5 b5
 obtain ⟨e0,e1,e2,e3,e4⟩ := Lv.cells h5
 exact bodyPost_ret (v := .agg #[.int .i64 0,.int .i64 (-1),.int .i64 (-1),.int .i64 (-1),.int .i64 (-1)]) (by simp [results,Tryz.results209,go_sem,e0,e1,e2,e3,e4,number]) rfl ⟨rfl,b5⟩
end Go.Proofs.YtiekbhlnnmnklaaGreat
namespace Go.Proofs.YtiekbhlnnmnklaaGreat
open Go.RowKit Go.Shelf Lvl
theorem param_no (i : Int) (w : World) (h : ¬ (0 ≤ i ∧ i < 4)) :
 Calls Tryz.prog 188 #[.int .i64 i] w fun e w' => e = .returned (.tuple #[zero.val,.int .i64 1]) ∧ Below w.heap.size w w' := by
 have h' : i < 0 ∨ (0 ≤ i ∧ 4 ≤ i) := by omega
 clear h
 rcases h' with h | ⟨h0,h⟩
 all_goals
  go_enter Tryz.func188,Tryz.ntmps188
  go_wp2_with fail
  exact bodyPost_ret (v := .tuple #[.agg #[.int .i64 0,.int .i64 0,.int .i64 0,.int .i64 0,.int .i64 0],.int .i64 1]) (by simp [results,Tryz.results188,go_sem]) rfl ⟨rfl,below_one _ _⟩
theorem param0 (w : World) :
 Calls Tryz.prog 188 #[.int .i64 0] w fun e w' => e = .returned (.tuple #[.agg #[.int .i64 0,.int .i64 0,.int .i64 (-1),.int .i64 (-1),.int .i64 (-1)],.int .i64 0]) ∧ Below w.heap.size w w' := by
 have HZ := hid (World.alloc_heap_new w zero.box)
 go_enter Tryz.func188,Tryz.ntmps188
 go_wp2_with fail
 refine (zero_any _).mono ?_
 rintro e w1 ⟨rfl,b1⟩
 have HR := hid (keep b1 HZ.out)
 have B1 := hid ((below_one w zero.box).trans (b1.mono (by simp)))
 obtain ⟨d0,d1,d2,d3,d4⟩ := Lv.cells HR.out
 obtain ⟨f0,f1,f2,f3,f4⟩ := Lv.frees HR.out
 have hz0 : w.heap.size < w1.heap.size := by have := b1.size; simp at this; omega
 clear b1
 dsimp only [number,Lv.val]
 go_wp2_with fail
 have h5 := keepA (put5_self HR.out ⟨0,0,-1,-1,-1⟩) (Lv.box ⟨0,0,-1,-1,-1⟩)
 have b5 := (put5_below B1.out (B := w.heap.size) (Nat.le_refl _) ⟨0,0,-1,-1,-1⟩).alloc (by simp [put5]; omega) (Lv.box ⟨0,0,-1,-1,-1⟩)
 generalize hW : (((((w1.setCell ⟨w.heap.size,0,none⟩ (.int .i64 0)).setCell ⟨w.heap.size,1,none⟩ (.int .i64 0)).setCell ⟨w.heap.size,2,none⟩ (.int .i64 (-1))).setCell ⟨w.heap.size,3,none⟩ (.int .i64 (-1))).setCell ⟨w.heap.size,4,none⟩ (.int .i64 (-1))).alloc (.cells #[.int .i64 0,.int .i64 0,.int .i64 (-1),.int .i64 (-1),.int .i64 (-1)] 61) = W4
 rw [show (put5 w1 w.heap.size ⟨0,0,-1,-1,-1⟩).alloc (Lv.box ⟨0,0,-1,-1,-1⟩) = W4 from hW] at h5 b5
 obtain ⟨e0,e1,e2,e3,e4⟩ := Lv.cells h5
 exact bodyPost_ret (v := .tuple #[.agg #[.int .i64 0,.int .i64 0,.int .i64 (-1),.int .i64 (-1),.int .i64 (-1)],.int .i64 0]) (by simp [results,Tryz.results188,go_sem,e0,e1,e2,e3,e4]) rfl ⟨rfl,b5⟩
theorem param1 (w : World) :
 Calls Tryz.prog 188 #[.int .i64 1] w fun e w' => e = .returned (.tuple #[.agg #[.int .i64 0,.int .i64 (-1),.int .i64 0,.int .i64 (-1),.int .i64 (-1)],.int .i64 0]) ∧ Below w.heap.size w w' := by
 have HZ := hid (World.alloc_heap_new w zero.box)
 go_enter Tryz.func188,Tryz.ntmps188
 go_wp2_with fail
 refine (zero_any _).mono ?_
 rintro e w1 ⟨rfl,b1⟩
 have HR := hid (keep b1 HZ.out)
 have B1 := hid ((below_one w zero.box).trans (b1.mono (by simp)))
 obtain ⟨d0,d1,d2,d3,d4⟩ := Lv.cells HR.out
 obtain ⟨f0,f1,f2,f3,f4⟩ := Lv.frees HR.out
 have hz0 : w.heap.size < w1.heap.size := by have := b1.size; simp at this; omega
 clear b1
 dsimp only [number,Lv.val]
 go_wp2_with fail
 have h5 := keepA (put5_self HR.out ⟨0,-1,0,-1,-1⟩) (Lv.box ⟨0,-1,0,-1,-1⟩)
 have b5 := (put5_below B1.out (B := w.heap.size) (Nat.le_refl _) ⟨0,-1,0,-1,-1⟩).alloc (by simp [put5]; omega) (Lv.box ⟨0,-1,0,-1,-1⟩)
 generalize hW : (((((w1.setCell ⟨w.heap.size,0,none⟩ (.int .i64 0)).setCell ⟨w.heap.size,1,none⟩ (.int .i64 (-1))).setCell ⟨w.heap.size,2,none⟩ (.int .i64 0)).setCell ⟨w.heap.size,3,none⟩ (.int .i64 (-1))).setCell ⟨w.heap.size,4,none⟩ (.int .i64 (-1))).alloc (.cells #[.int .i64 0,.int .i64 (-1),.int .i64 0,.int .i64 (-1),.int .i64 (-1)] 61) = W4
 rw [show (put5 w1 w.heap.size ⟨0,-1,0,-1,-1⟩).alloc (Lv.box ⟨0,-1,0,-1,-1⟩) = W4 from hW] at h5 b5
 obtain ⟨e0,e1,e2,e3,e4⟩ := Lv.cells h5
 exact bodyPost_ret (v := .tuple #[.agg #[.int .i64 0,.int .i64 (-1),.int .i64 0,.int .i64 (-1),.int .i64 (-1)],.int .i64 0]) (by simp [results,Tryz.results188,go_sem,e0,e1,e2,e3,e4]) rfl ⟨rfl,b5⟩
theorem param2 (w : World) :
 Calls Tryz.prog 188 #[.int .i64 2] w fun e w' => e = .returned (.tuple #[.agg #[.int .i64 0,.int .i64 (-1),.int .i64 (-1),.int .i64 0,.int .i64 (-1)],.int .i64 0]) ∧ Below w.heap.size w w' := by
 have HZ := hid (World.alloc_heap_new w zero.box)
 go_enter Tryz.func188,Tryz.ntmps188
 go_wp2_with fail
 refine (zero_any _).mono ?_
 rintro e w1 ⟨rfl,b1⟩
 have HR := hid (keep b1 HZ.out)
 have B1 := hid ((below_one w zero.box).trans (b1.mono (by simp)))
 obtain ⟨d0,d1,d2,d3,d4⟩ := Lv.cells HR.out
 obtain ⟨f0,f1,f2,f3,f4⟩ := Lv.frees HR.out
 have hz0 : w.heap.size < w1.heap.size := by have := b1.size; simp at this; omega
 clear b1
 dsimp only [number,Lv.val]
 go_wp2_with fail
 have h5 := keepA (put5_self HR.out ⟨0,-1,-1,0,-1⟩) (Lv.box ⟨0,-1,-1,0,-1⟩)
 have b5 := (put5_below B1.out (B := w.heap.size) (Nat.le_refl _) ⟨0,-1,-1,0,-1⟩).alloc (by simp [put5]; omega) (Lv.box ⟨0,-1,-1,0,-1⟩)
 generalize hW : (((((w1.setCell ⟨w.heap.size,0,none⟩ (.int .i64 0)).setCell ⟨w.heap.size,1,none⟩ (.int .i64 (-1))).setCell ⟨w.heap.size,2,none⟩ (.int .i64 (-1))).setCell ⟨w.heap.size,3,none⟩ (.int .i64 0)).setCell ⟨w.heap.size,4,none⟩ (.int .i64 (-1))).alloc (.cells #[.int .i64 0,.int .i64 (-1),.int .i64 (-1),.int .i64 0,.int .i64 (-1)] 61) = W4
 rw [show (put5 w1 w.heap.size ⟨0,-1,-1,0,-1⟩).alloc (Lv.box ⟨0,-1,-1,0,-1⟩) = W4 from hW] at h5 b5
 obtain ⟨e0,e1,e2,e3,e4⟩ := Lv.cells h5
 exact bodyPost_ret (v := .tuple #[.agg #[.int .i64 0,.int .i64 (-1),.int .i64 (-1),.int .i64 0,.int .i64 (-1)],.int .i64 0]) (by simp [results,Tryz.results188,go_sem,e0,e1,e2,e3,e4]) rfl ⟨rfl,b5⟩
theorem param3 (w : World) :
 Calls Tryz.prog 188 #[.int .i64 3] w fun e w' => e = .returned (.tuple #[.agg #[.int .i64 0,.int .i64 (-1),.int .i64 (-1),.int .i64 (-1),.int .i64 0],.int .i64 0]) ∧ Below w.heap.size w w' := by
 have HZ := hid (World.alloc_heap_new w zero.box)
 go_enter Tryz.func188,Tryz.ntmps188
 go_wp2_with fail
 refine (zero_any _).mono ?_
 rintro e w1 ⟨rfl,b1⟩
 have HR := hid (keep b1 HZ.out)
 have B1 := hid ((below_one w zero.box).trans (b1.mono (by simp)))
 obtain ⟨d0,d1,d2,d3,d4⟩ := Lv.cells HR.out
 obtain ⟨f0,f1,f2,f3,f4⟩ := Lv.frees HR.out
 have hz0 : w.heap.size < w1.heap.size := by have := b1.size; simp at this; omega
 clear b1
 dsimp only [number,Lv.val]
 go_wp2_with fail
 have h5 := keepA (put5_self HR.out ⟨0,-1,-1,-1,0⟩) (Lv.box ⟨0,-1,-1,-1,0⟩)
 have b5 := (put5_below B1.out (B := w.heap.size) (Nat.le_refl _) ⟨0,-1,-1,-1,0⟩).alloc (by simp [put5]; omega) (Lv.box ⟨0,-1,-1,-1,0⟩)
 generalize hW : (((((w1.setCell ⟨w.heap.size,0,none⟩ (.int .i64 0)).setCell ⟨w.heap.size,1,none⟩ (.int .i64 (-1))).setCell ⟨w.heap.size,2,none⟩ (.int .i64 (-1))).setCell ⟨w.heap.size,3,none⟩ (.int .i64 (-1))).setCell ⟨w.heap.size,4,none⟩ (.int .i64 0)).alloc (.cells #[.int .i64 0,.int .i64 (-1),.int .i64 (-1),.int .i64 (-1),.int .i64 0] 61) = W4
 rw [show (put5 w1 w.heap.size ⟨0,-1,-1,-1,0⟩).alloc (Lv.box ⟨0,-1,-1,-1,0⟩) = W4 from hW] at h5 b5
 obtain ⟨e0,e1,e2,e3,e4⟩ := Lv.cells h5
 exact bodyPost_ret (v := .tuple #[.agg #[.int .i64 0,.int .i64 (-1),.int .i64 (-1),.int .i64 (-1),.int .i64 0],.int .i64 0]) (by simp [results,Tryz.results188,go_sem,e0,e1,e2,e3,e4]) rfl ⟨rfl,b5⟩
theorem param_any (i : Int) (w : World) :
 Calls Tryz.prog 188 #[.int .i64 i] w fun e w' => e = .returned (.tuple #[(param i).1.val,.int .i64 (param i).2]) ∧ Below w.heap.size w w' := by
 unfold param
 by_cases h : 0 ≤ i ∧ i < 4
 ·rw [if_pos h]
  have hk : i = 0 ∨ i = 1 ∨ i = 2 ∨ i = 3 := by omega
  rcases hk with rfl | rfl | rfl | rfl
  ·exact param0 w
  ·exact param1 w
  ·exact param2 w
  ·exact param3 w
 ·rw [if_neg h]
  exact param_no i w h
end Go.Proofs.YtiekbhlnnmnklaaGreat
