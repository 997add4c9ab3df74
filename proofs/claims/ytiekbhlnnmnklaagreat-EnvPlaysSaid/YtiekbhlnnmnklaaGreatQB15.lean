/-
 subst.Levels: the mathematics,the function.
-/
import Derived.Lib.Hide
import Derived.Test.YtiekbhlnnmnklaaGreatQB14
import Derived.Test.YtiekbhlnnmnklaaGreatQB13
import Derived.Test.YtiekbhlnnmnklaaGreatQB4
import Derived.Test.YtiekbhlnnmnklaaGreatQB10
open Go.Lib (hid)
set_option maxRecDepth 100000
set_option maxHeartbeats 32000000
namespace Go.Proofs.YtiekbhlnnmnklaaGreat
open Go.RowKit Go.Shelf Lvl Trm
namespace Trm
theorem instFold_take (L : List Lv) : ∀ (p : List (Int × Int)) (o : Option Lv),(∀ x ∈ p,x.1.toNat < 4) → p.foldl (instStep (L.take 4)) o = p.foldl (instStep L) o
 | [],o,_ => rfl
 | x :: p,o,h => by
   rw [List.foldl_cons,List.foldl_cons]
   have h0 := h x (by simp)
   have e : instStep (L.take 4) o x = instStep L o x := by
    cases o with
    | none => rfl
    | some o =>
      unfold instStep
      dsimp only
      by_cases hx : x.1.toNat < L.length
      ·rw [dif_pos hx,dif_pos (by rw [List.length_take]; omega),List.getElem_take]
      ·rw [dif_neg hx,dif_neg (by rw [List.length_take]; omega)]
   rw [e]
   exact instFold_take L p _ (fun y hy => h y (by simp [hy]))
theorem inst_take {L : List Lv} (h : L.all Lv.may = true) (l : Lv) : inst l (L.take 4) = inst l L := by
 have h4 : (L.take 4).all Lv.may = true := by
  rw [List.all_eq_true] at h ⊢
  exact fun x hx => h x (List.mem_of_mem_take hx)
 have e : instAll (L.take 4) (number l.c) l.ps = instAll L (number l.c) l.ps := instFold_take L l.ps _ (fun x hx => by
  obtain ⟨k,hk,rfl,_⟩ := mem_ps_k hx
  simpa using hk)
 unfold inst
 rw [h,h4,e]
theorem inst_all {L : List Lv} {l : Lv} (h : (inst l L).2 = 0) : L.all Lv.may = true := by
 unfold inst at h
 by_cases hc : l.may = true ∧ L.all Lv.may = true
 ·exact hc.2
 ·rw [if_neg hc] at h
  cases h
def LGood (L y : List Lv) : Prop := y = L ∨ (y = L.take 4 ∧ L.all Lv.may = true)
theorem LGood.inst {L y : List Lv} (h : LGood L y) (l : Lv) : inst l y = inst l L := by
 rcases h with rfl | ⟨rfl,ha⟩
 ·rfl
 ·exact inst_take ha l
theorem LGood.next {L y : List Lv} (h : LGood L y) {l : Lv} (ho : (Lvl.inst l y).2 = 0) : LGood L (y.take 4) := by
 rcases h with rfl | ⟨rfl,ha⟩
 ·exact .inr ⟨rfl,inst_all ho⟩
 ·exact .inr ⟨by simp [List.take_take],ha⟩
def fL (L : List Lv) (l : Lv) : Lv := (inst l L).1
def okL (L : List Lv) (l : Lv) : Prop := (inst l L).2 = 0
theorem levL_spec {L : List Lv} : ∀ (ls y : List Lv),LGood L y → ((levL ls y).2.1 = 0 ↔ ∀ l ∈ ls,okL L l) ∧ ((levL ls y).2.1 = 0 → LGood L (levL ls y).1 ∧ (levL ls y).2.2 = ls.map (fL L))
 | [],y,h => by rw [levL]; exact ⟨⟨fun _ l hl => (by cases hl),fun _ => rfl⟩,fun _ => ⟨h,rfl⟩⟩
 | l :: r,y,h => by
   rw [levL]
   by_cases ho : (inst l y).2 = 0
   ·rw [if_pos ho]
    have e := h.inst l
    obtain ⟨h1,h2⟩ := levL_spec r (y.take 4) (h.next ho)
    have ho2 : okL L l := by unfold okL; rw [← e]; exact ho
    refine ⟨⟨fun hh x hx => ?_,fun hh => h1.2 (fun x hx => hh x (by simp [hx]))⟩,fun hh => ⟨(h2 hh).1,?_⟩⟩
    ·rcases List.mem_cons.1 hx with rfl | hx
     ·exact ho2
     ·exact h1.1 hh x hx
    ·show (inst l y).1 :: _ = _
     rw [(h2 hh).2,e]; rfl
   ·rw [if_neg ho]
    refine ⟨⟨fun hh => absurd hh ho,fun hh => ?_⟩,fun hh => absurd hh ho⟩
    have := hh l (by simp)
    unfold okL at this
    rw [← h.inst l] at this
    exact absurd this ho
mutual
def Tm.lmap (f : Lv → Lv) : Tm → Tm
 | .mk k n s ls ts => .mk k n s (ls.map f) (lmapL f ts)
def lmapL (f : Lv → Lv) : List Tm → List Tm
 | [] => []
 | t :: r => t.lmap f :: lmapL f r
end
mutual
def Tm.allL (p : Lv → Prop) : Tm → Prop
 | .mk _ _ _ ls ts => (∀ l ∈ ls,p l) ∧ allLL p ts
def allLL (p : Lv → Prop) : List Tm → Prop
 | [] => True
 | t :: r => t.allL p ∧ allLL p r
end
theorem node_ls0 {t : Tm} (h : t.node = true) (hl : t.ls ≠ []) : t.n = 0 := by
 unfold Tm.node at h
 simp only [Bool.and_eq_true] at h
 obtain ⟨⟨_,h5⟩,h6⟩ := h
 have hk : t.k = 1 ∨ t.k = 3 := by
  by_cases h1 : t.k = 1
  ·exact .inl h1
  ·by_cases h3 : t.k = 3
   ·exact .inr h3
   ·rw [if_neg h1,if_neg h3] at h6
    exact absurd (List.eq_nil_of_length_eq_zero (of_decide_eq_true h6)) hl
 rw [if_neg (by omega),if_neg (by omega)] at h5
 exact of_decide_eq_true h5
mutual
theorem thr_lev {L : List Lv} : ∀ (t : Tm) (y : List Lv) (d u : Int),OkMay t d → LGood L y → ((t.thr lfLev y u).2.1 = 0 ↔ t.allL (okL L)) ∧ ((t.thr lfLev y u).2.1 = 0 → LGood L (t.thr lfLev y u).1 ∧ (t.thr lfLev y u).2.2.getD t = t.lmap (fL L))
 | .mk k n s ls ts,y,d,u,ho,hy => by
   rw [Tm.thr,Tm.allL,Tm.lmap]
   by_cases hts : ts.isEmpty = true
   ·rw [if_pos hts]
    have h0 : ts = [] := List.isEmpty_iff.1 hts
    subst h0
    obtain ⟨h1,h2⟩ := levL_spec (L := L) ls y hy
    rw [allLL,lmapL]
    show ((levL ls y).2.1 = 0 ↔ _) ∧ ((levL ls y).2.1 = 0 → LGood L (levL ls y).1 ∧ (if (levL ls y).2.1 = 0 ∧ sameL (levL ls y).2.2 ls = false then some (Tm.mk k 0 s (levL ls y).2.2 []) else none).getD (Tm.mk k n s ls []) = _)
    refine ⟨⟨fun h => ⟨h1.1 h,trivial⟩,fun h => h1.2 h.1⟩,fun h => ⟨(h2 h).1,?_⟩⟩
    have e := (h2 h).2
    cases hs : sameL (levL ls y).2.2 ls
    ·rw [if_pos ⟨h,rfl⟩,e]
     have hn : n = 0 := node_ls0 ho.node.1 (fun hl => by
      have hl' : ls = [] := hl
      subst hl'
      rw [e] at hs
      have : sameL ([] : List Lv) [] = true := sameL_iff.2 rfl
      rw [List.map_nil,this] at hs
      cases hs)
     rw [hn]; rfl
    ·rw [if_neg (by simp),← e,sameL_iff.1 hs]; rfl
   ·rw [if_neg hts]
    have hls : ls = [] := node_inner ho.node.1 (show ts ≠ [] by simpa using hts)
    subst hls
    obtain ⟨h1,h2⟩ := thrL_lev (L := L) k ts y (d + 1) u (fun x hx => ho.down x hx) hy
    unfold fin
    refine ⟨⟨fun h => ⟨fun l hl => (by cases hl),h1.1 h⟩,fun h => h1.2 h.2⟩,fun h => ?_⟩
    have h' : (thrL lfLev k ts y u).2.1 = 0 := h
    obtain ⟨h3,h4,h5⟩ := h2 h'
    refine ⟨h3,?_⟩
    cases hcc : (thrL lfLev k ts y u).2.2.1
    ·rw [if_neg (by simp),← h4,h5 hcc]
     rfl
    ·rw [if_pos (by simp [h']),← h4]
     rfl
theorem thrL_lev {L : List Lv} (k : Int) : ∀ (ts : List Tm) (y : List Lv) (d u : Int),(∀ x ∈ ts,OkMay x d) → LGood L y → ((thrL lfLev k ts y u).2.1 = 0 ↔ allLL (okL L) ts) ∧ ((thrL lfLev k ts y u).2.1 = 0 → LGood L (thrL lfLev k ts y u).1 ∧ (thrL lfLev k ts y u).2.2.2 = lmapL (fL L) ts ∧ ((thrL lfLev k ts y u).2.2.1 = false → (thrL lfLev k ts y u).2.2.2 = ts))
 | [],y,d,u,_,hy => by rw [thrL,allLL,lmapL]; exact ⟨⟨fun _ => trivial,fun _ => rfl⟩,fun _ => ⟨hy,rfl,fun _ => rfl⟩⟩
 | t :: r,y,d,u,ho,hy => by
   obtain ⟨h1,h2⟩ := thr_lev (L := L) t y d (und k r.isEmpty u) (ho t (by simp)) hy
   rw [thrL,allLL,lmapL]
   by_cases he : (t.thr lfLev y (und k r.isEmpty u)).2.1 = 0
   ·rw [if_pos he]
    obtain ⟨g1,e1⟩ := h2 he
    obtain ⟨h3,h4⟩ := thrL_lev (L := L) k r (t.thr lfLev y (und k r.isEmpty u)).1 d (und k r.isEmpty u) (fun x hx => ho x (by simp [hx])) g1
    refine ⟨⟨fun h => ⟨h1.1 he,h3.1 h⟩,fun h => h3.2 h.2⟩,fun h => ?_⟩
    obtain ⟨h5,h6,h7⟩ := h4 h
    refine ⟨h5,by rw [← h6,← e1],fun hc => ?_⟩
    simp only [Bool.or_eq_false_iff] at hc
    have h8 : (t.thr lfLev y (und k r.isEmpty u)).2.2 = none := by simpa using hc.1
    rw [h7 hc.2,h8]; rfl
   ·rw [if_neg he]
    exact ⟨⟨fun h => absurd h he,fun h => absurd (h1.2 h.1) he⟩,fun h => absurd h he⟩
end
noncomputable def levelsAns (t : Tm) (L : List Lv) : Tm × Int := if t.may = false then (zeroT,1) else ansT (tAns t (t.thr lfLev L 0)) (t.thr lfLev L 0).2.1
theorem levels_is {t : Tm} {L : List Lv} (ht : t.may = true) (ha : t.allL (okL L)) {x : Tm} (hx : t.lmap (fL L) = x) (hm : x.may = true) : levelsAns t L = (x,0) := by
 obtain ⟨h1,h2⟩ := thr_lev (L := L) t L 1 0 (OkMay.start ht) (.inl rfl)
 have h0 := h1.2 ha
 unfold levelsAns tAns ansT
 rw [if_neg (by rw [ht]; simp),if_pos h0,(h2 h0).2,if_neg (by simp [h0]),hx,if_pos hm]
end Trm
theorem Trm.leaf_levels {B N K : Nat} (hKN : K < N) (hBK : B ≤ K) (bo : Option Addr) (bc : Nat) (y0 : List Lv) (hy0 : y0.length ≤ 1000000) (hbc : y0.length ≤ bc) : Leaf B N (fun q => q = K) K 115 lfLev (LevInv bo bc y0 B K) (fun _ => True) where
 calls st t b o u w _ hi hn _ _ _ hat hB hN _ := levels1_any hKN hBK bo bc y0 hy0 hbc st t b o u w hi hn hat hB hN
 good _ _ _ _ _ _ _ := trivial
 kind st t u y hn _ h := by
  unfold lfLev at h
  dsimp only at h
  split at h
  ·cases h
   have := (node_few hn).2.2.1
   show t.k ≠ 0
   omega
  ·cases h
 keep := LevInv.keep hKN (by omega)
 low q hq := by subst hq; exact hBK
 enter args w := by kernel_rfl
theorem Levels_any (t : Tm) (h : Hd) (L : List Lv) (bo : Option Addr) (bc : Nat) (w : World) (hin : t.In w.heap.size w h) (hr : LRow w bo L) (hlo : Low w.heap.size bo L.length) (hL : L.length ≤ 1000000) (hbc : L.length ≤ bc) :
 Calls Tryz.prog 64 #[t.val h,.slice bo L.length bc] w fun e w' => ∃ h',e = .returned (.tuple #[(levelsAns t L).1.val h',.int .i64 (levelsAns t L).2]) ∧ (levelsAns t L).1.In w'.heap.size w' h' ∧ Below w.heap.size w w' := by
 have HM := hid (fun (W : World) (hW : Below w.heap.size w W) => PMay_any t h W (Tm.In.mono hW.size _ _ (Tm.In.below hW _ _ hin)))
 have HB0 := hid ((below_two w (t.box h) (.cells #[.slice bo L.length bc] 24)).alloc (by simp; omega) (.cells #[.int .u8 0,.int .i64 0,.string no,.slice none 0 0,.slice none 0 0] 27))
 have HX0 := hid (keepA (new1of2 w (t.box h) (.cells #[.slice bo L.length bc] 24)) (.cells #[.int .u8 0,.int .i64 0,.string no,.slice none 0 0,.slice none 0 0] 27))
 have HK0 := hid (keepA (new2 w (t.box h) (.cells #[.slice bo L.length bc] 24)) (.cells #[.int .u8 0,.int .i64 0,.string no,.slice none 0 0,.slice none 0 0] 27))
 have HA0 := hid (new3 w (t.box h) (.cells #[.slice bo L.length bc] 24) (.cells #[.int .u8 0,.int .i64 0,.string no,.slice none 0 0,.slice none 0 0] 27))
 have HIN := hid hin
 have HR := hid hr
 have HLO := hid hlo
 clear hin hr hlo
 cases hmay : t.may
 ·have hs : levelsAns t L = (zeroT,1) := if_pos hmay
  rw [hs]
  rw [hmay] at HM
  unfold Tm.val at HM ⊢
  dsimp only [Tm.vals] at HM ⊢
  clear hs hmay
  go_enter Tryz.func64,Tryz.ntmps64
  go_wp2_with fail
  refine (HM.out _ HB0.out).mono ?_
  rintro e w1 ⟨rfl,b1⟩
  have hA1 := Lvl.keep b1 HA0.out
  have HB1 := hid (Trm.go HB0.out b1)
  obtain ⟨a0,a1,a2,a3,a4⟩ := five_cells hA1
  obtain ⟨f0,f1,f2,f3,f4⟩ := five_free hA1
  have HA1 := hid hA1
  clear hA1 b1
  go_wp2_with fail
  have h5 := putT_self HA1.out (.int .u8 0) (.int .i64 0) (.string no) (.slice none 0 0) (.slice none 0 0)
  have b5 := putT_below HB1.out (by omega : w.heap.size ≤ w.heap.size + 1 + 1) (.int .u8 0) (.int .i64 0) (.string no) (.slice none 0 0) (.slice none 0 0)
  unfold putT no at h5 b5
  generalize hW : ((((w1.setCell ⟨w.heap.size + 1 + 1,0,none⟩ (.int .u8 0)).setCell ⟨w.heap.size + 1 + 1,1,none⟩ (.int .i64 0)).setCell ⟨w.heap.size + 1 + 1,2,none⟩ (.string ⟨#[]⟩)).setCell ⟨w.heap.size + 1 + 1,3,none⟩ (.slice none 0 0)).setCell ⟨w.heap.size + 1 + 1,4,none⟩ (.slice none 0 0) = W4 at h5 b5 ⊢
  obtain ⟨e0,e1,e2,e3,e4⟩ := five_cells h5
  clear hW
  exact bodyPost_ret (v := .tuple #[zeroT.val ⟨none,0,none,0⟩,.int .i64 1]) (by simp [results,Tryz.results64,go_sem,e0,e1,e2,e3,e4,zeroT,Tm.val,Tm.vals,Tm.k,Tm.n,Tm.s,Tm.ls,Tm.ts,no]) rfl ⟨⟨none,0,none,0⟩,rfl,leaf_in (by decide) (by decide) (by decide) (by decide) (by decide),b5⟩
 ·obtain ⟨a,ha⟩ : ∃ a,a = levelsAns t L := ⟨_,rfl⟩
  obtain ⟨y,hy⟩ : ∃ y,y = tAns t (t.thr lfLev L 0) := ⟨_,rfl⟩
  obtain ⟨z,hz⟩ : ∃ z,z = (t.thr lfLev L 0).2.1 := ⟨_,rfl⟩
  have hya : ansT y z = a := by
   rw [ha,hy,hz]
   unfold levelsAns
   rw [if_neg (by rw [hmay]; simp)]
  rw [← ha]
  rw [hmay] at HM
  have HTU := hid (fun (W : World) (hW : Below w.heap.size w W) (hK : W.heap[w.heap.size + 1]? = some (.cells #[.slice bo L.length bc] 24)) => show Calls Tryz.prog 114 #[t.val h,fnv 115 (w.heap.size + 1)] W (fun e w' => ∃ h',e = .returned (.tuple #[y.val h',.int .i64 z]) ∧ FirmS (fun q => w.heap.size ≤ q ∧ q < W.heap.size) w' y h' ∧ RanS (fun q => q = w.heap.size + 1) W w') from by
   have hKl := (Array.getElem?_eq_some_iff.1 hK).1
   have := turned_any (leaf_levels (B := w.heap.size) (N := W.heap.size) hKl (by omega) bo bc L hL hbc) t h L W hmay trivial ⟨hK,Or.inl rfl,LRow.low HR.out HLO.out hW,HLO.out⟩ (Tm.In.below hW _ _ HIN.out) hW.size (Nat.le_refl _) (fun q hq => by subst hq; exact hKl)
   rw [← hy,← hz] at this
   exact this.mono (fun _ _ ⟨h',he,hf,_,hr⟩ => ⟨h',he,hf,hr⟩))
  have HAN := hid (fun (W : World) (h' : Hd) (hi : y.In W.heap.size W h') => by
   have := sub_answer_any y h' z W hi
   rw [hya] at this
   exact this)
  clear ha hy hz hya hmay
  obtain ⟨a1,a2⟩ := a
  unfold Tm.val at HM HTU HAN ⊢
  dsimp only [Tm.vals] at HM HTU HAN ⊢
  go_enter Tryz.func64,Tryz.ntmps64
  go_wp2_with fail
  refine (HM.out _ HB0.out).mono ?_
  rintro e w1 ⟨rfl,b1⟩
  have HB1 := hid (Trm.go HB0.out b1)
  have HA1 := hid (Lvl.keep b1 HA0.out)
  have hX1 := Lvl.keep b1 HX0.out
  have HK1 := hid (Lvl.keep b1 HK0.out)
  obtain ⟨x0,x1,x2,x3,x4⟩ := five_cells (show w1.heap[w.heap.size]? = some (.cells #[.int .u8 t.k,.int .i64 t.n,.string t.s,.slice h.lo t.ls.length h.lc,.slice h.to t.ts.length h.tc] 27) from hX1)
  have lX := (Array.getElem?_eq_some_iff.1 hX1).1
  clear b1 hX1
  go_wp2_with fail
  refine (HTU.out _ HB1.out HK1.out).mono ?_
  rintro e wt ⟨ht,rfl,iT,rT⟩
  have HBt := hid ((HB1.out).trans (rT.below (fun q hq => by subst hq; omega) HB1.out.size))
  have HAt := hid (rT.keep HA1.out (by omega))
  have HIt := hid iT
  have hlw1 := (Array.getElem?_eq_some_iff.1 HA1.out).1
  clear iT rT x0 x1 x2 x3 x4 lX
  go_wp2_with fail
  refine (HAN.out _ _ HIt.out.here).mono ?_
  rintro e wa ⟨ha,rfl,iA,ba⟩
  have HBa := hid (Trm.go HBt.out ba)
  have hAa := Lvl.keep ba HAt.out
  obtain ⟨q0,q1,q2,q3,q4⟩ := five_cells hAa
  obtain ⟨f0,f1,f2,f3,f4⟩ := five_free hAa
  have HAa := hid hAa
  have HIa := hid (iA _ HIt.out)
  clear ba iA hAa
  go_wp2_with fail
  have h5 := putT_self HAa.out (.int .u8 a1.k) (.int .i64 a1.n) (.string a1.s) (.slice ha.lo a1.ls.length ha.lc) (.slice ha.to a1.ts.length ha.tc)
  have b5 := putT_below HBa.out (by omega : w.heap.size ≤ w.heap.size + 1 + 1) (.int .u8 a1.k) (.int .i64 a1.n) (.string a1.s) (.slice ha.lo a1.ls.length ha.lc) (.slice ha.to a1.ts.length ha.tc)
  have r5 := putT_ran wa (w.heap.size + 1 + 1) (.int .u8 a1.k) (.int .i64 a1.n) (.string a1.s) (.slice ha.lo a1.ls.length ha.lc) (.slice ha.to a1.ts.length ha.tc)
  unfold putT at h5 b5 r5
  generalize hW : ((((wa.setCell ⟨w.heap.size + 1 + 1,0,none⟩ (.int .u8 a1.k)).setCell ⟨w.heap.size + 1 + 1,1,none⟩ (.int .i64 a1.n)).setCell ⟨w.heap.size + 1 + 1,2,none⟩ (.string a1.s)).setCell ⟨w.heap.size + 1 + 1,3,none⟩ (.slice ha.lo a1.ls.length ha.lc)).setCell ⟨w.heap.size + 1 + 1,4,none⟩ (.slice ha.to a1.ts.length ha.tc) = W4 at h5 b5 r5 ⊢
  obtain ⟨e0,e1,e2,e3,e4⟩ := five_cells h5
  clear hW
  refine bodyPost_ret (v := .tuple #[a1.val ha,.int .i64 a2]) (by simp [results,Tryz.results64,go_sem,e0,e1,e2,e3,e4,Tm.val,Tm.vals]) rfl ⟨ha,rfl,?_,b5⟩
  exact (HIa.out.step (RanS.of_ran r5 ⟨by omega,hlw1⟩)).here
end Go.Proofs.YtiekbhlnnmnklaaGreat
namespace Go.Proofs.YtiekbhlnnmnklaaGreat
open Go.RowKit Go.Shelf Lvl Trm
namespace Lvl
theorem drewN_below (B : Nat) (w : World) (n : Nat) : Below B w (w.drewN n) := by refine ⟨?_,?_,?_,?_,?_⟩ <;> simp [World.drewN]
def Lv.setc (l : Lv) (c : Int) : Lv := { l with c := c }
theorem at_setc (l : Lv) (c : Int) (k : Nat) : (l.setc c).at_ k = l.at_ k := by
 match k with
 | 0 => rfl
 | 1 => rfl
 | 2 => rfl
 | k + 3 => rfl
def formTo (l : Lv) (k : Nat) : Lv := l.setc (formC l.c (l.upto k))
def Lv.low1 (l : Lv) : Prop := ∀ k,k < 4 → -1 ≤ l.at_ k
theorem formTo_no (l : Lv) {k : Nat} (hk : k < 4) (h : l.at_ k = -1 ∨ formC l.c (l.upto k) ≤ l.at_ k → False) : formTo l (k + 1) = formTo l k := by
 have hne : l.at_ k ≠ -1 := fun e => h (.inl e)
 unfold formTo
 rw [(l.upto_mem k hk hne).2.2,formC_snoc,if_neg (fun e => h (.inr e))]
theorem formTo_skip (l : Lv) {k : Nat} (hk : k < 4) (h : l.at_ k = -1) : formTo l (k + 1) = formTo l k := by
 unfold formTo
 rw [l.upto_skip k hk h]
theorem formTo_yes (l : Lv) {k : Nat} (hk : k < 4) (hn : l.at_ k ≠ -1) (h : formC l.c (l.upto k) ≤ l.at_ k) : formTo l (k + 1) = l.setc 0 := by
 unfold formTo
 rw [(l.upto_mem k hk hn).2.2,formC_snoc,if_pos h]
def RBox (w : World) (g : Nat → Lv) (i : Value) (wr : World) : Prop := ∃ k : Nat,i = .int .i64 k ∧ k ≤ 4 ∧ wr.heap[w.heap.size]? = some (g k).box ∧ wr.heap[w.heap.size + 1]? = some zero.box ∧ Below w.heap.size w wr
def moreTo (l : Lv) (n : Int) (k : Nat) : Lv := ⟨l.c + n,if 0 < k then up l.p0 n else l.p0,if 1 < k then up l.p1 n else l.p1,if 2 < k then up l.p2 n else l.p2,if 3 < k then up l.p3 n else l.p3⟩
theorem moreTo_at (l : Lv) (n : Int) {k : Nat} (hk : k < 4) : (moreTo l n k).at_ k = l.at_ k := by
 match k,hk with
 | 0,_ => rfl
 | 1,_ => rfl
 | 2,_ => rfl
 | 3,_ => rfl
theorem moreTo_next (l : Lv) (n : Int) {k : Nat} (hk : k < 4) : moreTo l n (k + 1) = (moreTo l n k).put k (up (l.at_ k) n) := by
 match k,hk with
 | 0,_ => rfl
 | 1,_ => rfl
 | 2,_ => rfl
 | 3,_ => rfl
theorem moreTo_skip (l : Lv) (n : Int) {k : Nat} (hk : k < 4) (h : l.at_ k = -1) : moreTo l n (k + 1) = moreTo l n k := by
 rw [moreTo_next l n hk,h]
 match k,hk with
 | 0,_ => (have e : l.p0 = -1 := h; simp [moreTo,up,Lv.put,e])
 | 1,_ => (have e : l.p1 = -1 := h; simp [moreTo,up,Lv.put,e])
 | 2,_ => (have e : l.p2 = -1 := h; simp [moreTo,up,Lv.put,e])
 | 3,_ => (have e : l.p3 = -1 := h; simp [moreTo,up,Lv.put,e])
theorem set_pk {l : Lv} {W : World} {B : Nat} (h : W.heap[B]? = some l.box) (n : Int) {k : Nat} (hk : k < 4) : (W.setCell ⟨B,1 + k,none⟩ (.int .i64 n)).heap[B]? = some (l.put k n).box := by
 match k,hk with
 | 0,_ => exact set_p0 h n
 | 1,_ => exact set_p1 h n
 | 2,_ => exact set_p2 h n
 | 3,_ => exact set_p3 h n
def bothTo (a b : Lv) (k : Nat) : Lv := ⟨max a.c b.c,if 0 < k then max a.p0 b.p0 else a.p0,if 1 < k then max a.p1 b.p1 else a.p1,if 2 < k then max a.p2 b.p2 else a.p2,if 3 < k then max a.p3 b.p3 else a.p3⟩
theorem bothTo_at (a b : Lv) {k : Nat} (hk : k < 4) : (bothTo a b k).at_ k = a.at_ k := by
 match k,hk with
 | 0,_ => rfl
 | 1,_ => rfl
 | 2,_ => rfl
 | 3,_ => rfl
theorem bothTo_next (a b : Lv) {k : Nat} (hk : k < 4) : bothTo a b (k + 1) = (bothTo a b k).put k (max (a.at_ k) (b.at_ k)) := by
 match k,hk with
 | 0,_ => rfl
 | 1,_ => rfl
 | 2,_ => rfl
 | 3,_ => rfl
theorem low1_of {l : Lv} (h0 : -1 ≤ l.p0) (h1 : -1 ≤ l.p1) (h2 : -1 ≤ l.p2) (h3 : -1 ≤ l.p3) : l.low1 := fun k hk => by
 match k,hk with
 | 0,_ => exact h0
 | 1,_ => exact h1
 | 2,_ => exact h2
 | 3,_ => exact h3
theorem fine_low1 {l : Lv} (h : l.fine) : l.low1 := low1_of h.2.1 h.2.2.1 h.2.2.2.1 h.2.2.2.2
def RBox2 (w : World) (g : Nat → Lv) (b : Lv) (i : Value) (wr : World) : Prop := ∃ k : Nat,i = .int .i64 k ∧ k ≤ 4 ∧ wr.heap[w.heap.size]? = some (g k).box ∧ wr.heap[w.heap.size + 1]? = some b.box ∧ wr.heap[w.heap.size + 1 + 1]? = some zero.box ∧ Below w.heap.size w wr
end Lvl
theorem RefForm_any (l : Lv) (w : World) (hl : l.low1) :
 Calls Tryz.prog 212 #[l.val] w fun e w' => e = .returned l.form.val ∧ Below w.heap.size w w' := by
 obtain ⟨G,hG⟩ : ∃ G,G = l.form := ⟨_,rfl⟩
 rw [← hG]
 have HG := hid hG
 have HL := hid hl
 have H0 := hid (new1of2 w l.box zero.box)
 have H1 := hid (new2 w l.box zero.box)
 have HB := hid (below_two w l.box zero.box)
 clear hG hl
 unfold Lv.val
 go_enter Tryz.func212,Tryz.ntmps212
 go_wp2_with fail
 go_loopw [3] (fun i wr => RBox w (formTo l) i wr) (fun i _ => 4 - (intOf i).toNat)
 case atStart => exact ⟨0,rfl,by omega,H0.out,H1.out,HB.out⟩
 case round =>
  clear H0 H1 HB
  obtain ⟨k,rfl,hk,h0,h1,hb⟩ := hrel
  have X0 := hid h0
  have X1 := hid h1
  have XB := hid hb
  have lw : w.heap.size < wr.heap.size := (Array.getElem?_eq_some_iff.1 h0).1
  clear h0 h1 hb
  by_cases hlt : k < 4
  ·have c1 := at_cell X0.out k hlt
   obtain ⟨c0,_⟩ := Lv.cells X0.out
   have f0 := Lv.free X0.out 0
   rw [show (formTo l k).at_ k = l.at_ k from at_setc _ _ _] at c1
   rw [show (formTo l k).c = formC l.c (l.upto k) from rfl] at c0
   have hp1 := HL.out k hlt
   have N1 := hid (formTo_skip l hlt)
   have N2 := hid (formTo_no l hlt)
   have N3 := hid (formTo_yes l hlt)
   obtain ⟨p,hp⟩ : ∃ p,p = l.at_ k := ⟨_,rfl⟩
   obtain ⟨c,hc⟩ : ∃ c,c = formC l.c (l.upto k) := ⟨_,rfl⟩
   rw [← hp] at c1 N1 N2 N3 hp1
   rw [← hc] at c0 N2 N3
   clear hp hc
   by_cases hA : 0 ≤ p
   ·have dA : decide (0 ≤ p) = true := by simpa using hA
    by_cases hC : c ≤ p
    ·have dC : decide (c ≤ p) = true := by simpa using hC
     have HE := hid (N3.out (by omega) hC)
     clear hA hC hp1
     go_wp2_with fail
     go_quiet (fail)
     go_wp2_with fail
     go_roundw
     case rel => exact ⟨k + 1,by go_num,by omega,by rw [HE.out]; exact set_c (Lvl.keep (Lvl.drewN_below _ _ _) X0.out) 0,block_other (Lvl.keep (Lvl.drewN_below _ _ _) X1.out) _ (by omega),(XB.out.trans (Lvl.drewN_below _ _ _)).setCell (p := ⟨w.heap.size,0,none⟩) (Nat.le_refl _) _⟩
     case measure => simp [intOf]; omega
    ·have dC : decide (c ≤ p) = false := by simpa using hC
     have HE := hid (N2.out (by omega))
     clear hA hC hp1
     go_wp2_with fail
     go_quiet (fail)
     go_wp2_with fail
     go_roundw
     case rel => exact ⟨k + 1,by go_num,by omega,by rw [HE.out]; exact Lvl.keep (Lvl.drewN_below _ _ _) X0.out,Lvl.keep (Lvl.drewN_below _ _ _) X1.out,XB.out.trans (Lvl.drewN_below _ _ _)⟩
     case measure => simp [intOf]; omega
   ·have dA : decide (0 ≤ p) = false := by simpa using hA
    have HE := hid (N1.out (by omega))
    clear hA hp1
    go_wp2_with fail
    go_quiet (fail)
    go_wp2_with fail
    go_roundw
    case rel => exact ⟨k + 1,by go_num,by omega,by rw [HE.out]; exact Lvl.keep (Lvl.drewN_below _ _ _) X0.out,Lvl.keep (Lvl.drewN_below _ _ _) X1.out,XB.out.trans (Lvl.drewN_below _ _ _)⟩
    case measure => simp [intOf]; omega
  ·obtain rfl : k = 4 := by omega
   have hf : formTo l 4 = G := by rw [HG.out]; rfl
   rw [hf] at X0
   obtain ⟨c0,c1,c2,c3,c4⟩ := Lv.cells X0.out
   obtain ⟨d0,d1,d2,d3,d4⟩ := Lv.cells X1.out
   obtain ⟨f0,f1,f2,f3,f4⟩ := Lv.frees X1.out
   clear hf
   go_wp2_with fail
   have h5 := put5_self X1.out G
   have b5 := put5_below XB.out (by omega : w.heap.size ≤ w.heap.size + 1) G
   unfold put5 at h5 b5
   generalize hW : ((((wr.setCell ⟨w.heap.size + 1,0,none⟩ (.int .i64 G.c)).setCell ⟨w.heap.size + 1,1,none⟩ (.int .i64 G.p0)).setCell ⟨w.heap.size + 1,2,none⟩ (.int .i64 G.p1)).setCell ⟨w.heap.size + 1,3,none⟩ (.int .i64 G.p2)).setCell ⟨w.heap.size + 1,4,none⟩ (.int .i64 G.p3) = W5 at h5 b5 ⊢
   obtain ⟨e0,e1,e2,e3,e4⟩ := Lv.cells h5
   clear hW
   exact bodyPost_ret (v := .agg #[.int .i64 G.c,.int .i64 G.p0,.int .i64 G.p1,.int .i64 G.p2,.int .i64 G.p3]) (by simp [results,Tryz.results212,go_sem,e0,e1,e2,e3,e4]) rfl ⟨rfl,b5⟩
theorem RefMore_any (l : Lv) (n : Int) (w : World) (hl : l.within = true) (hn : 0 ≤ n ∧ n ≤ 1099511627776) :
 Calls Tryz.prog 197 #[l.val,.int .i64 n] w fun e w' => e = .returned (l.plus n).form.val ∧ Below w.heap.size w w' := by
 have hw := (Lvl.within_iff l).1 hl
 have HF := hid (fun W => RefForm_any (l.plus n) W (low1_of (by show -1 ≤ up l.p0 n; unfold up; split <;> omega) (by show -1 ≤ up l.p1 n; unfold up; split <;> omega) (by show -1 ≤ up l.p2 n; unfold up; split <;> omega) (by show -1 ≤ up l.p3 n; unfold up; split <;> omega)))
 have hwc : IntKind.i64.wrap (l.c + n) = l.c + n := IntWalk.i64_in _ (by omega)
 have HWP : Hid (∀ k,k < 4 → -1 ≤ l.at_ k ∧ (l.at_ k ≠ -1 → 0 ≤ l.at_ k) ∧ IntKind.i64.wrap (l.at_ k + n) = l.at_ k + n) := hid (fun k hk => by
  match k,hk with
  | 0,_ => exact ⟨hw.2.1.1,fun h => (by have := hw.2.1.1; show 0 ≤ l.p0; have h' : l.p0 ≠ -1 := h; omega),IntWalk.i64_in _ (by show _ ≤ l.p0 + n ∧ l.p0 + n ≤ _; omega)⟩
  | 1,_ => exact ⟨hw.2.2.1.1,fun h => (by have := hw.2.2.1.1; show 0 ≤ l.p1; have h' : l.p1 ≠ -1 := h; omega),IntWalk.i64_in _ (by show _ ≤ l.p1 + n ∧ l.p1 + n ≤ _; omega)⟩
  | 2,_ => exact ⟨hw.2.2.2.1.1,fun h => (by have := hw.2.2.2.1.1; show 0 ≤ l.p2; have h' : l.p2 ≠ -1 := h; omega),IntWalk.i64_in _ (by show _ ≤ l.p2 + n ∧ l.p2 + n ≤ _; omega)⟩
  | 3,_ => exact ⟨hw.2.2.2.2.1,fun h => (by have := hw.2.2.2.2.1; show 0 ≤ l.p3; have h' : l.p3 ≠ -1 := h; omega),IntWalk.i64_in _ (by show _ ≤ l.p3 + n ∧ l.p3 + n ≤ _; omega)⟩)
 obtain ⟨G,hG⟩ : ∃ G,G = (l.plus n).form := ⟨_,rfl⟩
 rw [← hG] at HF ⊢
 have H0 := hid (new1of2 w (l.setc (l.c + n)).box zero.box)
 have H1 := hid (new2 w (l.setc (l.c + n)).box zero.box)
 have HB := hid (below_two w (l.setc (l.c + n)).box zero.box)
 have HS : Hid (∀ k,k < 4 → l.at_ k = -1 → moreTo l n (k + 1) = moreTo l n k) := hid (fun k hk => moreTo_skip l n hk)
 have HN : Hid (∀ k,k < 4 → l.at_ k ≠ -1 → moreTo l n (k + 1) = (moreTo l n k).put k (l.at_ k + n)) := hid (fun k hk h => by rw [moreTo_next l n hk]; unfold up; rw [if_neg h])
 clear hG hw hl hn
 unfold Lv.val at HF ⊢
 go_enter Tryz.func197,Tryz.ntmps197
 go_wp2_with fail
 go_loopw [5] (fun i wr => RBox w (moreTo l n) i wr) (fun i _ => 4 - (intOf i).toNat)
 case atStart => exact ⟨0,rfl,by omega,H0.out,H1.out,HB.out⟩
 case round =>
  clear H0 H1 HB hwc
  obtain ⟨k,rfl,hk,h0,h1,hb⟩ := hrel
  have X0 := hid h0
  have X1 := hid h1
  have XB := hid hb
  have lw : w.heap.size < wr.heap.size := (Array.getElem?_eq_some_iff.1 h0).1
  clear h0 h1 hb
  by_cases hlt : k < 4
  ·have c1 := at_cell X0.out k hlt
   have f1 : wr.frozen? ⟨w.heap.size,1 + k,none⟩ = false := Lv.free X0.out _
   rw [moreTo_at l n hlt] at c1
   have hp1 := (HWP.out k hlt).1
   have hwp := (HWP.out k hlt).2.2
   have N1 := hid (HS.out k hlt)
   have N2 := hid (HN.out k hlt)
   obtain ⟨p,hp⟩ : ∃ p,p = l.at_ k := ⟨_,rfl⟩
   rw [← hp] at c1 N1 N2 hp1 hwp
   clear hp
   by_cases hA : 0 ≤ p
   ·have dA : decide (0 ≤ p) = true := by simpa using hA
    have HE := hid (N2.out (by omega))
    have Y0 := hid (set_pk X0.out (p + n) hlt)
    have Y1 := hid (block_other X1.out (b := w.heap.size) (o := 1 + k) (.int .i64 (p + n)) (by omega))
    have YB := hid (XB.out.setCell (p := ⟨w.heap.size,1 + k,none⟩) (Nat.le_refl _) (.int .i64 (p + n)))
    clear hA hp1
    go_wp2_with fail
    go_roundw
    case rel => exact ⟨k + 1,by go_num,by omega,by rw [HE.out]; exact Y0.out,Y1.out,YB.out⟩
    case measure => simp [intOf]; omega
   ·have dA : decide (0 ≤ p) = false := by simpa using hA
    have HE := hid (N1.out (by omega))
    clear hA hp1
    go_wp2_with fail
    go_roundw
    case rel => exact ⟨k + 1,by go_num,by omega,by rw [HE.out]; exact X0.out,X1.out,XB.out⟩
    case measure => simp [intOf]; omega
  ·obtain rfl : k = 4 := by omega
   have hf : moreTo l n 4 = l.plus n := rfl
   rw [hf] at X0
   obtain ⟨q,hq⟩ : ∃ q,q = l.plus n := ⟨_,rfl⟩
   rw [← hq] at HF X0
   clear hf hq HS HN HWP
   obtain ⟨c0,c1,c2,c3,c4⟩ := Lv.cells X0.out
   go_wp2_with fail
   refine (HF.out _).mono ?_
   rintro e w1 ⟨rfl,b1⟩
   have X2 := hid (Lvl.keep b1 X1.out)
   have XB2 := hid (XB.out.trans (b1.mono XB.out.size))
   obtain ⟨d0,d1,d2,d3,d4⟩ := Lv.cells X2.out
   obtain ⟨f0,f1,f2,f3,f4⟩ := Lv.frees X2.out
   clear b1
   go_wp2_with fail
   have h5 := put5_self X2.out G
   have b5 := put5_below XB2.out (by omega : w.heap.size ≤ w.heap.size + 1) G
   unfold put5 at h5 b5
   generalize hW : ((((w1.setCell ⟨w.heap.size + 1,0,none⟩ (.int .i64 G.c)).setCell ⟨w.heap.size + 1,1,none⟩ (.int .i64 G.p0)).setCell ⟨w.heap.size + 1,2,none⟩ (.int .i64 G.p1)).setCell ⟨w.heap.size + 1,3,none⟩ (.int .i64 G.p2)).setCell ⟨w.heap.size + 1,4,none⟩ (.int .i64 G.p3) = W5 at h5 b5 ⊢
   obtain ⟨e0,e1,e2,e3,e4⟩ := Lv.cells h5
   clear hW
   exact bodyPost_ret (v := .agg #[.int .i64 G.c,.int .i64 G.p0,.int .i64 G.p1,.int .i64 G.p2,.int .i64 G.p3]) (by simp [results,Tryz.results197,go_sem,e0,e1,e2,e3,e4]) rfl ⟨rfl,b5⟩
theorem RefBoth_any (a b : Lv) (w : World) (ha : a.low1) :
 Calls Tryz.prog 196 #[a.val,b.val] w fun e w' => e = .returned (a.join b).form.val ∧ Below w.heap.size w w' := by
 have hmax := run_max
 have HF := hid (fun W => RefForm_any (a.join b) W (low1_of (by have := ha 0 (by omega); show -1 ≤ max a.p0 b.p0; have h : -1 ≤ a.p0 := this; omega) (by have := ha 1 (by omega); show -1 ≤ max a.p1 b.p1; have h : -1 ≤ a.p1 := this; omega) (by have := ha 2 (by omega); show -1 ≤ max a.p2 b.p2; have h : -1 ≤ a.p2 := this; omega) (by have := ha 3 (by omega); show -1 ≤ max a.p3 b.p3; have h : -1 ≤ a.p3 := this; omega)))
 obtain ⟨G,hG⟩ : ∃ G,G = (a.join b).form := ⟨_,rfl⟩
 rw [← hG] at HF ⊢
 obtain ⟨M,hM⟩ : ∃ M,M = max a.c b.c := ⟨_,rfl⟩
 have H0 := hid (new1of3 w (a.setc M).box b.box zero.box)
 have H1 := hid (new2of3 w (a.setc M).box b.box zero.box)
 have H2 := hid (new3 w (a.setc M).box b.box zero.box)
 have HB := hid (below_three w (a.setc M).box b.box zero.box)
 have HST : Hid (bothTo a b 0 = a.setc M) := hid (by rw [hM]; rfl)
 clear hG ha
 unfold Lv.val at HF ⊢
 go_enter Tryz.func196,Tryz.ntmps196
 go_wp2_with fail
 rw [← hM]
 clear hM
 go_loopw [5] (fun i wr => RBox2 w (bothTo a b) b i wr) (fun i _ => 4 - (intOf i).toNat)
 case atStart => exact ⟨0,rfl,by omega,by rw [HST.out]; exact H0.out,H1.out,H2.out,HB.out⟩
 case round =>
  clear H0 H1 H2 HB
  obtain ⟨k,rfl,hk,h0,h1,h2,hb⟩ := hrel
  have X0 := hid h0
  have X1 := hid h1
  have X2 := hid h2
  have XB := hid hb
  have lw : w.heap.size < wr.heap.size := (Array.getElem?_eq_some_iff.1 h0).1
  have lw1 : w.heap.size + 1 < wr.heap.size := (Array.getElem?_eq_some_iff.1 h1).1
  clear h0 h1 h2 hb
  by_cases hlt : k < 4
  ·have c1 := at_cell X0.out k hlt
   have d1 := at_cell X1.out k hlt
   have f1 : wr.frozen? ⟨w.heap.size,1 + k,none⟩ = false := Lv.free X0.out _
   rw [bothTo_at a b hlt] at c1
   have HE := hid (bothTo_next a b hlt)
   obtain ⟨p,hp⟩ : ∃ p,p = a.at_ k := ⟨_,rfl⟩
   obtain ⟨q,hq⟩ : ∃ q,q = b.at_ k := ⟨_,rfl⟩
   rw [← hp] at c1 HE
   rw [← hq] at d1 HE
   clear hp hq
   go_wp2_with fail
   go_region
   go_wp2_with fail
   go_roundw
   case rel => exact ⟨k + 1,by go_num,by omega,by rw [HE.out]; exact set_pk (Lvl.keep (Lvl.drewN_below _ _ _) X0.out) _ hlt,block_other (Lvl.keep (Lvl.drewN_below _ _ _) X1.out) _ (by omega),block_other (Lvl.keep (Lvl.drewN_below _ _ _) X2.out) _ (by omega),(XB.out.trans (Lvl.drewN_below _ _ _)).setCell (p := ⟨w.heap.size,1 + k,none⟩) (Nat.le_refl _) _⟩
   case measure => simp [intOf]; omega
  ·obtain rfl : k = 4 := by omega
   have hf : bothTo a b 4 = a.join b := rfl
   rw [hf] at X0
   obtain ⟨q,hq⟩ : ∃ q,q = a.join b := ⟨_,rfl⟩
   rw [← hq] at HF X0
   clear hf hq
   obtain ⟨c0,c1,c2,c3,c4⟩ := Lv.cells X0.out
   go_wp2_with fail
   refine (HF.out _).mono ?_
   rintro e w1 ⟨rfl,b1⟩
   have X3 := hid (Lvl.keep b1 X2.out)
   have XB2 := hid (XB.out.trans (b1.mono XB.out.size))
   obtain ⟨d0,d1,d2,d3,d4⟩ := Lv.cells X3.out
   obtain ⟨f0,f1,f2,f3,f4⟩ := Lv.frees X3.out
   clear b1
   go_wp2_with fail
   have h5 := put5_self X3.out G
   have b5 := put5_below XB2.out (by omega : w.heap.size ≤ w.heap.size + 1 + 1) G
   unfold put5 at h5 b5
   generalize hW : ((((w1.setCell ⟨w.heap.size + 1 + 1,0,none⟩ (.int .i64 G.c)).setCell ⟨w.heap.size + 1 + 1,1,none⟩ (.int .i64 G.p0)).setCell ⟨w.heap.size + 1 + 1,2,none⟩ (.int .i64 G.p1)).setCell ⟨w.heap.size + 1 + 1,3,none⟩ (.int .i64 G.p2)).setCell ⟨w.heap.size + 1 + 1,4,none⟩ (.int .i64 G.p3) = W5 at h5 b5 ⊢
   obtain ⟨e0,e1,e2,e3,e4⟩ := Lv.cells h5
   clear hW
   exact bodyPost_ret (v := .agg #[.int .i64 G.c,.int .i64 G.p0,.int .i64 G.p1,.int .i64 G.p2,.int .i64 G.p3]) (by simp [results,Tryz.results196,go_sem,e0,e1,e2,e3,e4]) rfl ⟨rfl,b5⟩
end Go.Proofs.YtiekbhlnnmnklaaGreat
namespace Go.Proofs.YtiekbhlnnmnklaaGreat
namespace Lvl
theorem ans_form {a b : Lv} (h : a.form = b.form) : ans a = ans b := by
 unfold ans; rw [h]
theorem inst_own {l : Lv} (hl : l.ok) : inst l own.list = (l,0) := by
 have e : (instO l own).form = l.form := same_form (instO_fine hl own_ok) hl.fine fun n hn => by rw [ev_instO hl own_ok,ev_own hn]
 rw [inst_row hl own_ok,ans,e,ok_formed hl,if_pos ((within_iff l).2 ⟨hl.1,hl.2.1,hl.2.2.1,hl.2.2.2.1,hl.2.2.2.2.1⟩)]
end Lvl
end Go.Proofs.YtiekbhlnnmnklaaGreat
namespace Go.Proofs.YtiekbhlnnmnklaaGreat
open Go.RowKit Go.Shelf Lvl Trm
namespace Lvl
theorem form_may {l : Lv} (h : l.fine) : l.form.may = l.form.within := by
 cases hw : l.form.within
 ·unfold Lv.may; rw [hw]; rfl
 ·exact (may_iff _).2 (formed_ok h hw)
end Lvl
theorem RefWhole_any (l : Lv) (w : World) (hl : l.fine) :
 Calls Tryz.prog 198 #[l.val] w fun e w' => e = .returned (.tuple #[(ans l).1.val,.int .i64 (ans l).2]) ∧ Below w.heap.size w w' := by
 have HF := hid (fun W => RefForm_any l W (fine_low1 hl))
 have HM := hid (fun W => RefMay_any l.form W)
 rw [form_may hl] at HM
 unfold ans
 obtain ⟨F,hF⟩ : ∃ F,F = l.form := ⟨_,rfl⟩
 rw [← hF] at HF HM ⊢
 have HL := hid (new1of2 w l.box zero.box)
 have HZ := hid (new2 w l.box zero.box)
 clear hF hl
 unfold Lv.val at HF HM ⊢
 cases hw : F.within
 all_goals
  rw [hw] at HM
  first | rw [if_pos rfl] | rw [if_neg (by simp)]
  clear hw
  go_enter Tryz.func198,Tryz.ntmps198
  go_wp2_with fail
  refine (HF.out _).mono ?_
  rintro e w1 ⟨rfl,b1⟩
  have HL1 := hid (Lvl.keep b1 HL.out)
  have HZ1 := hid (Lvl.keep b1 HZ.out)
  have B1 := hid ((below_two w l.box zero.box).trans (b1.mono (by simp; omega)))
  obtain ⟨c0,c1,c2,c3,c4⟩ := Lv.cells HL1.out
  obtain ⟨f0,f1,f2,f3,f4⟩ := Lv.frees HL1.out
  clear b1
  go_wp2_with fail
  have h5 := put5_self HL1.out F
  have z5 := put5_other HZ1.out F (b := w.heap.size) (by omega)
  have b5 := put5_below B1.out (B := w.heap.size) (Nat.le_refl _) F
  unfold put5 at h5 z5 b5
  generalize hW : ((((w1.setCell ⟨w.heap.size,0,none⟩ (.int .i64 F.c)).setCell ⟨w.heap.size,1,none⟩ (.int .i64 F.p0)).setCell ⟨w.heap.size,2,none⟩ (.int .i64 F.p1)).setCell ⟨w.heap.size,3,none⟩ (.int .i64 F.p2)).setCell ⟨w.heap.size,4,none⟩ (.int .i64 F.p3) = W4 at h5 z5 b5 ⊢
  have X4 := hid h5
  have Z4 := hid z5
  have B4 := hid b5
  clear hW h5 z5 b5 c0 c1 c2 c3 c4 f0 f1 f2 f3 f4
  refine (HM.out _).mono ?_
  rintro e w2 ⟨rfl,b2⟩
  have X2 := hid (Lvl.keep b2 X4.out)
  have Z2 := hid (Lvl.keep b2 Z4.out)
  have B2 := hid (B4.out.trans (b2.mono B4.out.size))
  clear b2
  obtain ⟨c0,c1,c2,c3,c4⟩ := Lv.cells X2.out
  obtain ⟨d0,d1,d2,d3,d4⟩ := Lv.cells Z2.out
  obtain ⟨f0,f1,f2,f3,f4⟩ := Lv.frees Z2.out
 ·
  go_wp2_with fail
  have h5 := put5_self Z2.out zero
  have b5 := put5_below B2.out (B := w.heap.size + 1) (by omega) zero
  generalize hW : (((((w2.setCell ⟨w.heap.size + 1,0,none⟩ (.int .i64 0)).setCell ⟨w.heap.size + 1,1,none⟩ (.int .i64 0)).setCell ⟨w.heap.size + 1,2,none⟩ (.int .i64 0)).setCell ⟨w.heap.size + 1,3,none⟩ (.int .i64 0)).setCell ⟨w.heap.size + 1,4,none⟩ (.int .i64 0)) = W4
  rw [show put5 w2 (w.heap.size + 1) zero = W4 from hW] at h5 b5
  obtain ⟨e0,e1,e2,e3,e4⟩ := Lv.cells h5
  exact bodyPost_ret (v := .tuple #[.agg #[.int .i64 0,.int .i64 0,.int .i64 0,.int .i64 0,.int .i64 0],.int .i64 4]) (by simp [results,Tryz.results198,go_sem,e0,e1,e2,e3,e4,zero]) rfl ⟨rfl,b5⟩
 ·
  go_wp2_with fail
  have h5 := put5_self Z2.out F
  have b5 := put5_below B2.out (B := w.heap.size + 1) (by omega) F
  generalize hW : (((((w2.setCell ⟨w.heap.size + 1,0,none⟩ (.int .i64 F.c)).setCell ⟨w.heap.size + 1,1,none⟩ (.int .i64 F.p0)).setCell ⟨w.heap.size + 1,2,none⟩ (.int .i64 F.p1)).setCell ⟨w.heap.size + 1,3,none⟩ (.int .i64 F.p2)).setCell ⟨w.heap.size + 1,4,none⟩ (.int .i64 F.p3)) = W4
  rw [show put5 w2 (w.heap.size + 1) F = W4 from hW] at h5 b5
  obtain ⟨e0,e1,e2,e3,e4⟩ := Lv.cells h5
  exact bodyPost_ret (v := .tuple #[.agg #[.int .i64 F.c,.int .i64 F.p0,.int .i64 F.p1,.int .i64 F.p2,.int .i64 F.p3],.int .i64 0]) (by simp [results,Tryz.results198,go_sem,e0,e1,e2,e3,e4]) rfl ⟨rfl,b5⟩
end Go.Proofs.YtiekbhlnnmnklaaGreat
