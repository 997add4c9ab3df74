/-
 battenref02: Inst.
-/
import Derived.Lib.Hide
import Derived.Test.YtiekbhlnnmnklaaGreatQB15
import Derived.Test.YtiekbhlnnmnklaaGreatQB10
import Derived.Deep.RegionHeld3
open Go.Lib (hid)
set_option maxRecDepth 100000
set_option maxHeartbeats 32000000
namespace Go.Proofs.YtiekbhlnnmnklaaGreat
open Go.RowKit Go.Shelf Lvl Trm
namespace Lvl
def ISt (ls : List Lv) (l : Lv) (k : Nat) (out : Lv) : Prop := ∃ o,instAll ls (number l.c) (l.upto k) = some o ∧ o.fine ∧ out.fine ∧ ∀ n : Four,n.pos → ev out n = ev o n
theorem ISt.start (ls : List Lv) {l : Lv} (hl : l.ok) : ISt ls l 0 (number l.c) :=
 ⟨number l.c,rfl,number_fine hl.1.1,number_fine hl.1.1,fun _ _ => rfl⟩
theorem ISt.skip {ls : List Lv} {l out : Lv} {k : Nat} (h : ISt ls l k out) (hk : k < 4) (hp : l.at_ k = -1) : ISt ls l (k + 1) out := by
 obtain ⟨o,h1,h2⟩ := h
 exact ⟨o,by rw [l.upto_skip k hk hp]; exact h1,h2⟩
theorem ISt.step {ls : List Lv} {l out : Lv} {k : Nat} (h : ISt ls l k out) (hk : k < 4) (hp : 0 ≤ l.at_ k) (hlt : k < ls.length) (hb : (ls[k]).fine) : ISt ls l (k + 1) (out.join ((ls[k]).plus (l.at_ k)).form).form := by
 obtain ⟨o,h1,h2,h3,h4⟩ := h
 have f1 := plus_fine hb (l.at_ k) hp
 have f2 := join_fine h3 (form_fine f1)
 refine ⟨o.join ((ls[k]).plus (l.at_ k)),?_,join_fine h2 f1,form_fine f2,fun n hn => ?_⟩
 ·rw [(l.upto_mem k hk (by omega)).2.2,instAll_snoc,h1]
  unfold instStep
  dsimp only
  rw [dif_pos (by simpa using hlt)]
  simp
 ·rw [ev_form f2 hn,ev_join h3 (form_fine f1),ev_form f1 hn,ev_join h2 f1,h4 n hn]
theorem ISt.short {ls : List Lv} {l out : Lv} {k : Nat} (h : ISt ls l k out) (hk : k < 4) (hp : 0 ≤ l.at_ k) (hlt : ¬ k < ls.length) (hm : l.may = true) (ha : ls.all Lv.may = true) : inst l ls = (zero,8) := by
 obtain ⟨o,h1,_⟩ := h
 have h2 : instAll ls (number l.c) (l.upto (k + 1)) = none := by
  rw [(l.upto_mem k hk (by omega)).2.2,instAll_snoc,h1]
  unfold instStep
  dsimp only
  rw [dif_neg (by simpa using hlt)]
 unfold inst
 rw [if_pos ⟨hm,ha⟩,instAll_prefix (l.upto_prefix (k + 1)) h2]
theorem ISt.done {ls : List Lv} {l out : Lv} (h : ISt ls l 4 out) (hm : l.may = true) (ha : ls.all Lv.may = true) : inst l ls = ans out ∧ out.fine := by
 obtain ⟨o,h1,h2,h3,h4⟩ := h
 have h5 : instAll ls (number l.c) l.ps = some o := h1
 refine ⟨?_,h3⟩
 unfold inst
 rw [if_pos ⟨hm,ha⟩,h5]
 exact (ans_form (same_form h3 h2 h4)).symm
def I2Rel (w : World) (l : Lv) (ls : List Lv) (X : Nat) (i : Value) (wr : World) : Prop := ∃ (k : Nat) (out : Lv),i = .int .i64 k ∧ k ≤ 4 ∧ ISt ls l k out ∧ wr.heap[w.heap.size]? = some l.box ∧ wr.heap[w.heap.size + 1]? = some zero.box ∧ wr.heap[X]? = some out.box ∧ Below w.heap.size w wr
theorem go2 {w W w1 : World} (h : Below w.heap.size w W) (b : Below W.heap.size W w1) : Below w.heap.size w w1 := h.trans (b.mono h.size)
def I1Rel (w : World) (l : Lv) (ls : List Lv) (i : Value) (wr : World) : Prop := ∃ k : Nat,i = .int .i64 k ∧ k ≤ ls.length ∧ (∀ j (h : j < ls.length),j < k → (ls[j]).may = true) ∧ wr.heap[w.heap.size]? = some l.box ∧ wr.heap[w.heap.size + 1]? = some zero.box ∧ Below w.heap.size w wr
end Lvl
theorem RefInst_any (l : Lv) (ao : Option Addr) (cap : Nat) (ls : List Lv) (w : World) (hr : LRow w ao ls) (hlow : ∀ a,ao = some a → 0 < ls.length → a.block < w.heap.size) (hn : ls.length ≤ 1000000) :
 Calls Tryz.prog 169 #[l.val,.slice ao ls.length cap] w fun e w' => e = .returned (.tuple #[(inst l ls).1.val,.int .i64 (inst l ls).2]) ∧ Below w.heap.size w w' := by
 have HML := hid (fun W => RefMay_any l W)
 have H0 := hid (new1of2 w l.box zero.box)
 have H1 := hid (new2 w l.box zero.box)
 have HB := hid (below_two w l.box zero.box)
 have HR := hid (fun (W : World) (hW : Below w.heap.size w W) => (show LRow W ao ls from ⟨fun k hk => by
  obtain ⟨b,off,hao,a0,a1,a2,a3,a4⟩ := hr.place k hk
  have hb : b < w.heap.size := hlow _ hao (by omega)
  exact ⟨b,off,hao,(hW.cell (p := ⟨b,_,none⟩) hb).trans a0,(hW.cell (p := ⟨b,_,none⟩) hb).trans a1,(hW.cell (p := ⟨b,_,none⟩) hb).trans a2,(hW.cell (p := ⟨b,_,none⟩) hb).trans a3,(hW.cell (p := ⟨b,_,none⟩) hb).trans a4⟩⟩))
 clear hr hlow
 cases hm : l.may
 ·have hi : inst l ls = (zero,1) := by unfold inst; rw [if_neg (by rw [hm]; simp)]
  rw [hi]
  rw [hm] at HML
  clear hi hm HR
  unfold Lv.val at HML ⊢
  go_enter Tryz.func169,Tryz.ntmps169
  go_wp2_with fail
  refine (HML.out _).mono ?_
  rintro e w1 ⟨rfl,b1⟩
  have XZ := hid (Lvl.keep b1 H1.out)
  have B1 := hid (HB.out.trans (b1.mono HB.out.size))
  clear b1
  obtain ⟨d0,d1,d2,d3,d4⟩ := Lv.cells XZ.out
  obtain ⟨f0,f1,f2,f3,f4⟩ := Lv.frees XZ.out
  go_wp2_with fail
  have h5 := put5_self XZ.out zero
  have b5 := put5_below B1.out (B := w.heap.size + 1) (by omega) zero
  generalize hW : (((((w1.setCell ⟨w.heap.size + 1,0,none⟩ (.int .i64 0)).setCell ⟨w.heap.size + 1,1,none⟩ (.int .i64 0)).setCell ⟨w.heap.size + 1,2,none⟩ (.int .i64 0)).setCell ⟨w.heap.size + 1,3,none⟩ (.int .i64 0)).setCell ⟨w.heap.size + 1,4,none⟩ (.int .i64 0)) = W4
  rw [show put5 w1 (w.heap.size + 1) zero = W4 from hW] at h5 b5
  obtain ⟨e0,e1,e2,e3,e4⟩ := Lv.cells h5
  exact bodyPost_ret (v := .tuple #[.agg #[.int .i64 0,.int .i64 0,.int .i64 0,.int .i64 0,.int .i64 0],.int .i64 1]) (by simp [results,Tryz.results169,go_sem,e0,e1,e2,e3,e4,zero]) rfl ⟨rfl,b5⟩
 ·have hok := (may_iff l).1 hm
  obtain ⟨G,hG⟩ : ∃ G,G = inst l ls := ⟨_,rfl⟩
  rw [← hG]
  have HZ1 : Hid (∀ k (h : k < ls.length),(ls[k]).may = false → G = (zero,1)) := hid (fun k h hk => by
   rw [hG]
   unfold inst
   rw [if_neg]
   rintro ⟨_,ha⟩
   rw [List.all_eq_true] at ha
   rw [ha _ (List.getElem_mem h)] at hk
   cases hk)
  have HOK := hid hok
  have HMM := hid hm
  rw [hm] at HML
  have HG := hid hG
  clear hm hok hG
  unfold Lv.val at HML ⊢
  go_enter Tryz.func169,Tryz.ntmps169
  go_wp2_with fail
  refine (HML.out _).mono ?_
  rintro e w1 ⟨rfl,b1⟩
  have XL := hid (Lvl.keep b1 H0.out)
  have XZ := hid (Lvl.keep b1 H1.out)
  have B1 := hid (HB.out.trans (b1.mono HB.out.size))
  clear b1 H0 H1 HB HML
  go_wp2_with fail
  go_loopw [6] (fun i wr => I1Rel w l ls i wr) (fun i _ => ls.length - (intOf i).toNat)
  case atStart => exact ⟨0,rfl,by omega,fun j _ hj => absurd hj (by omega),XL.out,XZ.out,B1.out⟩
  case round =>
   clear XL XZ B1
   obtain ⟨k,rfl,hk,hmay,h0,h1,hb⟩ := hrel
   have XL := hid h0
   have XZ := hid h1
   have B1 := hid hb
   have HMAY := hid hmay
   clear h0 h1 hb hmay
   by_cases hlt : k < ls.length
   ·obtain ⟨b2,off2,hao,l0,l1,l2,l3,l4⟩ := (HR.out wr B1.out).place k hlt
    subst hao
    have N1 := hid (HZ1.out k hlt)
    have N2 : Hid ((ls[k]).may = true → ∀ j (h : j < ls.length),j < k + 1 → (ls[j]).may = true) := hid (fun hx j h hj => by
     rcases (show j < k ∨ j = k by omega) with h' | rfl
     ·exact HMAY.out j h h'
     ·exact hx)
    generalize ls[k] = x at l0 l1 l2 l3 l4 N1 N2
    have lb2 : b2 < wr.heap.size := World.block_lt_of_cell? wr _ l0
    have HMX := hid (fun W => RefMay_any x W)
    cases hx : x.may
    ·rw [hx] at HMX
     have HE := hid (N1.out hx)
     clear hx N1 N2
     unfold Lv.val at HMX
     go_wp2_with fail
     refine (HMX.out _).mono ?_
     rintro e w2 ⟨rfl,bb⟩
     have YZ := hid (Lvl.keep bb XZ.out)
     have B2 := hid (B1.out.trans (bb.mono B1.out.size))
     clear bb l0 l1 l2 l3 l4 lb2
     obtain ⟨d0,d1,d2,d3,d4⟩ := Lv.cells YZ.out
     obtain ⟨f0,f1,f2,f3,f4⟩ := Lv.frees YZ.out
     go_wp2_with fail
     have h5 := put5_self YZ.out zero
     have b5 := put5_below B2.out (B := w.heap.size + 1) (by omega) zero
     generalize hW : (((((w2.setCell ⟨w.heap.size + 1,0,none⟩ (.int .i64 0)).setCell ⟨w.heap.size + 1,1,none⟩ (.int .i64 0)).setCell ⟨w.heap.size + 1,2,none⟩ (.int .i64 0)).setCell ⟨w.heap.size + 1,3,none⟩ (.int .i64 0)).setCell ⟨w.heap.size + 1,4,none⟩ (.int .i64 0)) = W4
     rw [show put5 w2 (w.heap.size + 1) zero = W4 from hW] at h5 b5
     obtain ⟨e0,e1,e2,e3,e4⟩ := Lv.cells h5
     exact bodyPost_ret (v := .tuple #[.agg #[.int .i64 0,.int .i64 0,.int .i64 0,.int .i64 0,.int .i64 0],.int .i64 1]) (by simp [results,Tryz.results169,go_sem,e0,e1,e2,e3,e4,zero]) rfl ⟨by rw [HE.out]; rfl,b5⟩
    ·rw [hx] at HMX
     have HY := hid (N2.out hx)
     clear hx N1 N2
     unfold Lv.val at HMX
     go_wp2_with fail
     refine (HMX.out _).mono ?_
     rintro e w2 ⟨rfl,bb⟩
     have YL := hid (Lvl.keep bb XL.out)
     have YZ := hid (Lvl.keep bb XZ.out)
     have B2 := hid (B1.out.trans (bb.mono B1.out.size))
     clear bb l0 l1 l2 l3 l4 lb2
     go_wp2_with fail
     go_roundw
     case rel => exact ⟨k + 1,by go_num,by omega,HY.out,YL.out,YZ.out,B2.out⟩
     case measure => simp [intOf]; omega
   ·obtain rfl : k = ls.length := by omega
    have HALL : Hid (ls.all Lv.may = true) := hid (by
     rw [List.all_eq_true]
     intro x hx
     obtain ⟨j,hj,rfl⟩ := List.mem_iff_getElem.1 hx
     exact HMAY.out j hj hj)
    clear HMAY HZ1
    go_wp2_with fail
    refine (RefZero_any _).mono ?_
    rintro e w3 ⟨rfl,bb⟩
    have YL := hid (Lvl.keep bb XL.out)
    have YZ := hid (Lvl.keep bb XZ.out)
    have B3 := hid (B1.out.trans (bb.mono B1.out.size))
    obtain ⟨c0,c1,c2,c3,c4⟩ := Lv.cells YL.out
    have lw : w.heap.size < w3.heap.size := (Array.getElem?_eq_some_iff.1 YL.out).1
    clear bb
    dsimp only [number,Lv.val]
    go_wp2_with fail
    have VL := hid (keepA YL.out (number l.c).box)
    have VZ := hid (keepA YZ.out (number l.c).box)
    have VX := hid (World.alloc_heap_new w3 (number l.c).box)
    have VB := hid (B3.out.alloc B3.out.size (number l.c).box)
    have lX1 : w.heap.size + 1 < w3.heap.size := (Array.getElem?_eq_some_iff.1 YZ.out).1
    obtain ⟨X,hX⟩ : ∃ X,X = w3.heap.size := ⟨_,rfl⟩
    rw [← hX] at VX lX1 ⊢
    have ew : w3.alloc (.cells #[.int .i64 l.c,.int .i64 (-1),.int .i64 (-1),.int .i64 (-1),.int .i64 (-1)] 61) = w3.alloc (number l.c).box := rfl
    rw [ew]
    go_loopw [8] (fun i wr => I2Rel w l ls X i wr) (fun i _ => 4 - (intOf i).toNat)
    case atStart => exact ⟨0,number l.c,rfl,by omega,ISt.start ls HOK.out,VL.out,VZ.out,VX.out,VB.out⟩
    case round =>
     clear VL VZ VX VB c0 c1 c2 c3 c4 YL YZ B3 lw XL XZ B1 ew hX
     obtain ⟨k,out,rfl,hk,hst,h0,h1,h2,hb⟩ := hrel
     have XL := hid h0
     have XZ := hid h1
     have XX := hid h2
     have B1 := hid hb
     have HST := hid hst
     have lw : w.heap.size < wr.heap.size := (Array.getElem?_eq_some_iff.1 h0).1
     have lX : X < wr.heap.size := (Array.getElem?_eq_some_iff.1 h2).1
     clear h0 h1 h2 hb hst
     by_cases hlt : k < 4
     ·have c1 := at_cell XL.out k hlt
      have hp1 : -1 ≤ l.at_ k ∧ l.at_ k ≤ 1099511627776 := by
       have hw := (Lvl.within_iff l).1 (may_within HMM.out)
       match k,hlt with
       | 0,_ => exact hw.2.1
       | 1,_ => exact hw.2.2.1
       | 2,_ => exact hw.2.2.2.1
       | 3,_ => exact hw.2.2.2.2
      have N1 := hid (fun h => ISt.skip HST.out hlt h)
      have N2 := hid (fun h h' => (HG.out.trans (ISt.short HST.out hlt h h' HMM.out HALL.out)))
      have N3 := hid (fun h h' hf => ISt.step HST.out hlt h h' hf)
      obtain ⟨p,hp⟩ : ∃ p,p = l.at_ k := ⟨_,rfl⟩
      rw [← hp] at c1 N1 N2 N3 hp1
      clear hp
      by_cases hA : p < 0
      ·have dA : decide (p < 0) = true := by simpa using hA
       have HN := hid (N1.out (by omega))
       clear hA hp1 N1 N2 N3
       go_wp2_with fail
       go_roundw
       case rel => exact ⟨k + 1,out,by go_num,by omega,HN.out,XL.out,XZ.out,XX.out,B1.out⟩
       case measure => simp [intOf]; omega
      ·have dA : decide (p < 0) = false := by simpa using hA
       by_cases hq : k < ls.length
       ·have dq : decide ((ls.length : Int) ≤ (k : Int)) = false := by simp; omega
        obtain ⟨b2,off2,hao,l0,l1,l2,l3,l4⟩ := (HR.out wr B1.out).place k hq
        subst hao
        have hxm : (ls[k]).may = true := by have := HALL.out; rw [List.all_eq_true] at this; exact this _ (List.getElem_mem hq)
        have N4 := hid (N3.out (by omega) hq ((may_iff _).1 hxm).fine)
        generalize ls[k] = x at l0 l1 l2 l3 l4 hxm N4
        have lb2 : b2 < wr.heap.size := World.block_lt_of_cell? wr _ l0
        have HC1 := hid c1
        have HL0 := hid l0
        have HL1 := hid l1
        have HL2 := hid l2
        have HL3 := hid l3
        have HL4 := hid l4
        obtain ⟨F1,hF1⟩ : ∃ F,F = (x.plus p).form := ⟨_,rfl⟩
        obtain ⟨F2,hF2⟩ : ∃ F,F = (out.join F1).form := ⟨_,rfl⟩
        have hol : out.low1 := by obtain ⟨_,_,_,h,_⟩ := HST.out; exact fine_low1 h
        have CM := hid (fun (W : World) (_ : Below wr.heap.size wr W) => (show Calls Tryz.prog 197 #[.agg #[.int .i64 x.c,.int .i64 x.p0,.int .i64 x.p1,.int .i64 x.p2,.int .i64 x.p3],.int .i64 p] W (fun e w' => e = .returned (.agg #[.int .i64 F1.c,.int .i64 F1.p0,.int .i64 F1.p1,.int .i64 F1.p2,.int .i64 F1.p3]) ∧ Below W.heap.size W w') from by
         have := RefMore_any x p W (may_within hxm) ⟨by omega,hp1.2⟩
         rwa [← hF1] at this))
        have CB := hid (fun (W : World) (_ : Below wr.heap.size wr W) => (show Calls Tryz.prog 196 #[.agg #[.int .i64 out.c,.int .i64 out.p0,.int .i64 out.p1,.int .i64 out.p2,.int .i64 out.p3],.agg #[.int .i64 F1.c,.int .i64 F1.p0,.int .i64 F1.p1,.int .i64 F1.p2,.int .i64 F1.p3]] W (fun e w' => e = .returned (.agg #[.int .i64 F2.c,.int .i64 F2.p0,.int .i64 F2.p1,.int .i64 F2.p2,.int .i64 F2.p3]) ∧ Below W.heap.size W w') from by
         have := RefBoth_any out F1 W hol
         rwa [← hF2] at this))
        rw [← hF1,← hF2] at N4
        clear hF1 hF2 hol hxm hA hp1 N1 N2 N3
        obtain ⟨d0,d1,d2,d3,d4⟩ := Lv.cells XX.out
        have hbz : Below wr.heap.size wr wr.drew := (Below.refl _ _).drew
        go_wp2_with fail
        go_region_with
         (first
         | (go_at_call 197; (with_reducible refine (CM.out _ ?_).mono ?_); (first | assumption | exact (Below.refl _ _).drew | exact (Below.refl _ _)); rintro e wx ⟨rfl,bw⟩; have hbx : Below wr.heap.size wr wx := Lvl.go2 (by first | assumption | exact (Below.refl _ _).drew | exact (Below.refl _ _)) bw; obtain ⟨d0,d1,d2,d3,d4⟩ := Lv.cells (Lvl.keep hbx XX.out); obtain ⟨f0,f1,f2,f3,f4⟩ := Lv.frees (Lvl.keep hbx XX.out); have c1 := (hbx.cell (p := ⟨w.heap.size,1 + k,none⟩) lw).trans HC1.out; have l0 := (hbx.cell (p := ⟨b2,_,none⟩) lb2).trans HL0.out; have l1 := (hbx.cell (p := ⟨b2,_,none⟩) lb2).trans HL1.out; have l2 := (hbx.cell (p := ⟨b2,_,none⟩) lb2).trans HL2.out; have l3 := (hbx.cell (p := ⟨b2,_,none⟩) lb2).trans HL3.out; have l4 := (hbx.cell (p := ⟨b2,_,none⟩) lb2).trans HL4.out; have lXx : X < wx.heap.size := Nat.lt_of_lt_of_le lX hbx.size)
         | (go_at_call 196; (with_reducible refine (CB.out _ ?_).mono ?_); (first | assumption | exact (Below.refl _ _).drew | exact (Below.refl _ _)); rintro e wx ⟨rfl,bw⟩; have hbx : Below wr.heap.size wr wx := Lvl.go2 (by first | assumption | exact (Below.refl _ _).drew | exact (Below.refl _ _)) bw; obtain ⟨d0,d1,d2,d3,d4⟩ := Lv.cells (Lvl.keep hbx XX.out); obtain ⟨f0,f1,f2,f3,f4⟩ := Lv.frees (Lvl.keep hbx XX.out); have c1 := (hbx.cell (p := ⟨w.heap.size,1 + k,none⟩) lw).trans HC1.out; have l0 := (hbx.cell (p := ⟨b2,_,none⟩) lb2).trans HL0.out; have l1 := (hbx.cell (p := ⟨b2,_,none⟩) lb2).trans HL1.out; have l2 := (hbx.cell (p := ⟨b2,_,none⟩) lb2).trans HL2.out; have l3 := (hbx.cell (p := ⟨b2,_,none⟩) lb2).trans HL3.out; have l4 := (hbx.cell (p := ⟨b2,_,none⟩) lb2).trans HL4.out; have lXx : X < wx.heap.size := Nat.lt_of_lt_of_le lX hbx.size))
        all_goals
         go_wp2_with fail
         have y0 := put5_self (Lvl.keep hbx XX.out) F2
         have y1 := put5_other (Lvl.keep hbx XL.out) F2 (b := X) (by omega)
         have y2 := put5_other (Lvl.keep hbx XZ.out) F2 (b := X) (by omega)
         have y3 := put5_below (Lvl.go2 B1.out hbx) (B := X) (by omega) F2
         unfold put5 at y0 y1 y2 y3
         have Y0 := hid y0
         have Y1 := hid y1
         have Y2 := hid y2
         have Y3 := hid y3
         clear y0 y1 y2 y3
         go_roundw
         case rel => exact ⟨k + 1,F2,by go_num,by omega,N4.out,Y1.out,Y2.out,Y0.out,Y3.out⟩
         case measure => simp [intOf]; omega
       ·have dq : decide ((ls.length : Int) ≤ (k : Int)) = true := by simp; omega
        have HE := hid (N2.out (by omega) hq)
        clear hA hp1 N1 N2 N3
        obtain ⟨d0,d1,d2,d3,d4⟩ := Lv.cells XZ.out
        obtain ⟨f0,f1,f2,f3,f4⟩ := Lv.frees XZ.out
        go_wp2_with fail
        have h5 := put5_self XZ.out zero
        have b5 := put5_below B1.out (B := w.heap.size + 1) (by omega) zero
        generalize hW : (((((wr.setCell ⟨w.heap.size + 1,0,none⟩ (.int .i64 0)).setCell ⟨w.heap.size + 1,1,none⟩ (.int .i64 0)).setCell ⟨w.heap.size + 1,2,none⟩ (.int .i64 0)).setCell ⟨w.heap.size + 1,3,none⟩ (.int .i64 0)).setCell ⟨w.heap.size + 1,4,none⟩ (.int .i64 0)) = W4
        rw [show put5 wr (w.heap.size + 1) zero = W4 from hW] at h5 b5
        obtain ⟨e0,e1,e2,e3,e4⟩ := Lv.cells h5
        exact bodyPost_ret (v := .tuple #[.agg #[.int .i64 0,.int .i64 0,.int .i64 0,.int .i64 0,.int .i64 0],.int .i64 8]) (by simp [results,Tryz.results169,go_sem,e0,e1,e2,e3,e4,zero]) rfl ⟨by rw [HE.out]; rfl,b5⟩
     ·obtain rfl : k = 4 := by omega
      obtain ⟨hd,hf⟩ := ISt.done HST.out HMM.out HALL.out
      obtain ⟨z,hz⟩ : ∃ z,z = ans out := ⟨_,rfl⟩
      have HW := hid (fun W => RefWhole_any out W hf)
      rw [← hz] at HW hd
      have HE := hid (HG.out.trans hd)
      obtain ⟨A,q⟩ := z
      clear hd hf hz
      unfold Lv.val at HW
      dsimp only at HW
      obtain ⟨g0,g1,g2,g3,g4⟩ := Lv.cells XX.out
      go_wp2_with fail
      refine (HW.out _).mono ?_
      rintro e w4 ⟨rfl,bb⟩
      have YZ := hid (Lvl.keep bb XZ.out)
      have B4 := hid (B1.out.trans (bb.mono B1.out.size))
      clear bb g0 g1 g2 g3 g4
      obtain ⟨d0,d1,d2,d3,d4⟩ := Lv.cells YZ.out
      obtain ⟨f0,f1,f2,f3,f4⟩ := Lv.frees YZ.out
      go_wp2_with fail
      have h5 := put5_self YZ.out A
      have b5 := put5_below B4.out (B := w.heap.size + 1) (by omega) A
      generalize hW : (((((w4.setCell ⟨w.heap.size + 1,0,none⟩ (.int .i64 A.c)).setCell ⟨w.heap.size + 1,1,none⟩ (.int .i64 A.p0)).setCell ⟨w.heap.size + 1,2,none⟩ (.int .i64 A.p1)).setCell ⟨w.heap.size + 1,3,none⟩ (.int .i64 A.p2)).setCell ⟨w.heap.size + 1,4,none⟩ (.int .i64 A.p3)) = W4
      rw [show put5 w4 (w.heap.size + 1) A = W4 from hW] at h5 b5
      obtain ⟨e0,e1,e2,e3,e4⟩ := Lv.cells h5
      exact bodyPost_ret (v := .tuple #[.agg #[.int .i64 A.c,.int .i64 A.p0,.int .i64 A.p1,.int .i64 A.p2,.int .i64 A.p3],.int .i64 q]) (by simp [results,Tryz.results169,go_sem,e0,e1,e2,e3,e4]) rfl ⟨by rw [HE.out],b5⟩
end Go.Proofs.YtiekbhlnnmnklaaGreat
