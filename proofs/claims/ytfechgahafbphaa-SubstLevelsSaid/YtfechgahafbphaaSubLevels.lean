/-
  subst.Levels: the mathematics, the function, the law's walk.
-/
import Derived.Test.YtfechgahafbphaaSubLev
import Derived.Test.YtfechgahafbphaaSubInstFn
import Derived.Test.YtfechgahafbphaaSubSmall
import Derived.Test.YtfechgahafbphaaSubWorks
import Derived.Test.YtfechgahafbphaaTrmOpen
namespace Go.Proofs.Ytfechgahafbphaa
open Go.RowKit Go.Shelf Lvl Trm

namespace Trm
theorem instFold_take (L : List Lv) : ∀ (p : List (Int × Int)) (o : Option Lv), (∀ x ∈ p, x.1.toNat < 4) → p.foldl (instStep (L.take 4)) o = p.foldl (instStep L) o
  | [], o, _ => rfl
  | x :: p, o, h => by
    rw [List.foldl_cons, List.foldl_cons]
    have h0 := h x (by simp)
    have e : instStep (L.take 4) o x = instStep L o x := by
      cases o with
      | none => rfl
      | some o =>
        unfold instStep
        dsimp only
        by_cases hx : x.1.toNat < L.length
        · rw [dif_pos hx, dif_pos (by rw [List.length_take]; omega), List.getElem_take]
        · rw [dif_neg hx, dif_neg (by rw [List.length_take]; omega)]
    rw [e]
    exact instFold_take L p _ (fun y hy => h y (by simp [hy]))
theorem inst_take {L : List Lv} (h : L.all Lv.may = true) (l : Lv) : inst l (L.take 4) = inst l L := by
  have h4 : (L.take 4).all Lv.may = true := by
    rw [List.all_eq_true] at h ⊢
    exact fun x hx => h x (List.mem_of_mem_take hx)
  have e : instAll (L.take 4) (number l.c) l.ps = instAll L (number l.c) l.ps := instFold_take L l.ps _ (fun x hx => by
    obtain ⟨k, hk, rfl, _⟩ := mem_ps_k hx
    simpa using hk)
  unfold inst
  rw [h, h4, e]
theorem inst_all {L : List Lv} {l : Lv} (h : (inst l L).2 = 0) : L.all Lv.may = true := by
  unfold inst at h
  by_cases hc : l.may = true ∧ L.all Lv.may = true
  · exact hc.2
  · rw [if_neg hc] at h
    cases h
/-- What of the levels is left at any time: all of them, or the first four of such as may be. -/
def LGood (L y : List Lv) : Prop := y = L ∨ (y = L.take 4 ∧ L.all Lv.may = true)
theorem LGood.inst {L y : List Lv} (h : LGood L y) (l : Lv) : inst l y = inst l L := by
  rcases h with rfl | ⟨rfl, ha⟩
  · rfl
  · exact inst_take ha l
theorem LGood.next {L y : List Lv} (h : LGood L y) {l : Lv} (ho : (Lvl.inst l y).2 = 0) : LGood L (y.take 4) := by
  rcases h with rfl | ⟨rfl, ha⟩
  · exact .inr ⟨rfl, inst_all ho⟩
  · exact .inr ⟨by simp [List.take_take], ha⟩
def fL (L : List Lv) (l : Lv) : Lv := (inst l L).1
def okL (L : List Lv) (l : Lv) : Prop := (inst l L).2 = 0
theorem levL_spec {L : List Lv} : ∀ (ls y : List Lv), LGood L y → ((levL ls y).2.1 = 0 ↔ ∀ l ∈ ls, okL L l) ∧ ((levL ls y).2.1 = 0 → LGood L (levL ls y).1 ∧ (levL ls y).2.2 = ls.map (fL L))
  | [], y, h => by rw [levL]; exact ⟨⟨fun _ l hl => (by cases hl), fun _ => rfl⟩, fun _ => ⟨h, rfl⟩⟩
  | l :: r, y, h => by
    rw [levL]
    by_cases ho : (inst l y).2 = 0
    · rw [if_pos ho]
      have e := h.inst l
      obtain ⟨h1, h2⟩ := levL_spec r (y.take 4) (h.next ho)
      have ho2 : okL L l := by unfold okL; rw [← e]; exact ho
      refine ⟨⟨fun hh x hx => ?_, fun hh => h1.2 (fun x hx => hh x (by simp [hx]))⟩, fun hh => ⟨(h2 hh).1, ?_⟩⟩
      · rcases List.mem_cons.1 hx with rfl | hx
        · exact ho2
        · exact h1.1 hh x hx
      · show (inst l y).1 :: _ = _
        rw [(h2 hh).2, e]; rfl
    · rw [if_neg ho]
      refine ⟨⟨fun hh => absurd hh ho, fun hh => ?_⟩, fun hh => absurd hh ho⟩
      have := hh l (by simp)
      unfold okL at this
      rw [← h.inst l] at this
      exact absurd this ho

mutual
/-- Other levels. -/
def Tm.lmap (f : Lv → Lv) : Tm → Tm
  | .mk k n s ls ts => .mk k n s (ls.map f) (lmapL f ts)
def lmapL (f : Lv → Lv) : List Tm → List Tm
  | [] => []
  | t :: r => t.lmap f :: lmapL f r
end
mutual
/-- Of all levels. -/
def Tm.allL (p : Lv → Prop) : Tm → Prop
  | .mk _ _ _ ls ts => (∀ l ∈ ls, p l) ∧ allLL p ts
def allLL (p : Lv → Prop) : List Tm → Prop
  | [] => True
  | t :: r => t.allL p ∧ allLL p r
end
theorem lmap_tV (f : Lv → Lv) (n : Int) : (tV n).lmap f = tV n := by
  unfold tV
  rw [Tm.lmap, lmapL]; rfl
mutual
theorem put_lmap {f : Lv → Lv} {g g' : Int → Int → Tm} (hg : ∀ v u, g' v u = (g v u).lmap f) : ∀ (t : Tm) (u : Int), (t.lmap f).put g' u = (t.put g u).lmap f
  | .mk k n s ls ts, u => by
    rw [Tm.lmap, Tm.put, Tm.put]
    by_cases hc : k = 2 ∧ u ≤ n
    · rw [if_pos hc, if_pos hc]
      exact hg _ _
    · rw [if_neg hc, if_neg hc, Tm.lmap, putL_lmap hg k ts 0 u]
theorem putL_lmap {f : Lv → Lv} {g g' : Int → Int → Tm} (hg : ∀ v u, g' v u = (g v u).lmap f) (k : Int) : ∀ (ts : List Tm) (i : Nat) (u : Int), putL g' k (lmapL f ts) i u = lmapL f (putL g k ts i u)
  | [], i, u => by rw [lmapL, putL, putL, lmapL]
  | t :: r, i, u => by rw [lmapL, putL, putL, lmapL, put_lmap hg t, putL_lmap hg k r]
end
theorem lift_lmap (f : Lv → Lv) (a b : Int) (t : Tm) (u : Int) : (t.lmap f).put (gLift a b) u = (t.put (gLift a b) u).lmap f :=
  put_lmap (fun v u => by unfold gLift ren; rw [lmap_tV]) t u
theorem inst_lmap (f : Lv → Lv) (x t : Tm) (u : Int) : (t.lmap f).put (gInst [x.lmap f]) u = (t.put (gInst [x]) u).lmap f :=
  put_lmap (fun v u => by
    by_cases hv : 0 ≤ v ∧ v < (1 : Nat)
    · obtain rfl : v = 0 := by omega
      have e : ∀ y : Tm, gInst [y] 0 u = y.put (gLift 0 u) 0 := fun y => gInst_last [] u
      rw [e, e, lift_lmap]
    · rw [gInst_no (l := [x]) hv, gInst_no (l := [x.lmap f]) hv, lmap_tV]
      rfl) t u
mutual
theorem allL_put {p : Lv → Prop} {g : Int → Int → Tm} (hg : ∀ v u, (g v u).allL p) : ∀ (t : Tm) (u : Int), t.allL p → (t.put g u).allL p
  | .mk k n s ls ts, u, h => by
    rw [Tm.allL] at h
    rw [Tm.put]
    by_cases hc : k = 2 ∧ u ≤ n
    · rw [if_pos hc]
      exact hg _ _
    · rw [if_neg hc, Tm.allL]
      exact ⟨h.1, allLL_put hg k ts 0 u h.2⟩
theorem allLL_put {p : Lv → Prop} {g : Int → Int → Tm} (hg : ∀ v u, (g v u).allL p) (k : Int) : ∀ (ts : List Tm) (i : Nat) (u : Int), allLL p ts → allLL p (putL g k ts i u)
  | [], i, u, _ => by rw [putL, allLL]; trivial
  | t :: r, i, u, h => by
    rw [allLL] at h
    rw [putL, allLL]
    exact ⟨allL_put hg t _ h.1, allLL_put hg k r _ _ h.2⟩
end
theorem allL_tV (p : Lv → Prop) (n : Int) : (tV n).allL p := by
  unfold tV
  rw [Tm.allL, allLL]
  exact ⟨fun l hl => (by cases hl), trivial⟩
theorem allL_lift {p : Lv → Prop} {t : Tm} (h : t.allL p) (a b u : Int) : (t.put (gLift a b) u).allL p := allL_put (fun _ _ => allL_tV p _) t u h
theorem allL_inst {p : Lv → Prop} {t x : Tm} (h : t.allL p) (hx : x.allL p) (u : Int) : (t.put (gInst [x]) u).allL p := allL_put (fun v u => by
  by_cases hv : 0 ≤ v ∧ v < (1 : Nat)
  · obtain rfl : v = 0 := by omega
    rw [show gInst [x] 0 u = x.put (gLift 0 u) 0 from gInst_last [] u]
    exact allL_lift hx _ _ _
  · rw [gInst_no (l := [x]) hv]
    exact allL_tV p _) t u h
mutual
theorem lmap_size (f : Lv → Lv) : ∀ t : Tm, (t.lmap f).size = t.size
  | .mk k n s ls ts => by rw [Tm.lmap, Tm.size, Tm.size, lmapL_size f ts]
theorem lmapL_size (f : Lv → Lv) : ∀ ts : List Tm, sizeL (lmapL f ts) = sizeL ts
  | [] => by rw [lmapL]
  | t :: r => by rw [lmapL, sizeL, sizeL, lmap_size f t, lmapL_size f r]
end
mutual
theorem lmap_vs (f : Lv → Lv) : ∀ (t : Tm) (u : Int), (t.lmap f).vs u = t.vs u
  | .mk k n s ls ts, u => by rw [Tm.lmap, Tm.vs, Tm.vs, lmapL_vs f k ts 0 u]
theorem lmapL_vs (f : Lv → Lv) (k : Int) : ∀ (ts : List Tm) (i : Nat) (u : Int), vsL k (lmapL f ts) i u = vsL k ts i u
  | [], i, u => by rw [lmapL]
  | t :: r, i, u => by rw [lmapL, vsL, vsL, lmap_vs f t, lmapL_vs f k r]
end
theorem lmap_free {f : Lv → Lv} {t : Tm} (h : t.may = true) (h2 : (t.lmap f).may = true) : (t.lmap f).free = t.free := by
  rw [free_top h, free_top h2, lmap_vs]

theorem node_ls0 {t : Tm} (h : t.node = true) (hl : t.ls ≠ []) : t.n = 0 := by
  unfold Tm.node at h
  simp only [Bool.and_eq_true] at h
  obtain ⟨⟨_, h5⟩, h6⟩ := h
  have hk : t.k = 1 ∨ t.k = 3 := by
    by_cases h1 : t.k = 1
    · exact .inl h1
    · by_cases h3 : t.k = 3
      · exact .inr h3
      · rw [if_neg h1, if_neg h3] at h6
        exact absurd (List.eq_nil_of_length_eq_zero (of_decide_eq_true h6)) hl
  rw [if_neg (by omega), if_neg (by omega)] at h5
  exact of_decide_eq_true h5

mutual
theorem thr_lev {L : List Lv} : ∀ (t : Tm) (y : List Lv) (d u : Int), OkMay t d → LGood L y → ((t.thr lfLev y u).2.1 = 0 ↔ t.allL (okL L)) ∧ ((t.thr lfLev y u).2.1 = 0 → LGood L (t.thr lfLev y u).1 ∧ (t.thr lfLev y u).2.2.getD t = t.lmap (fL L))
  | .mk k n s ls ts, y, d, u, ho, hy => by
    rw [Tm.thr, Tm.allL, Tm.lmap]
    by_cases hts : ts.isEmpty = true
    · rw [if_pos hts]
      have h0 : ts = [] := List.isEmpty_iff.1 hts
      subst h0
      obtain ⟨h1, h2⟩ := levL_spec (L := L) ls y hy
      rw [allLL, lmapL]
      show ((levL ls y).2.1 = 0 ↔ _) ∧ ((levL ls y).2.1 = 0 → LGood L (levL ls y).1 ∧ (if (levL ls y).2.1 = 0 ∧ sameL (levL ls y).2.2 ls = false then some (Tm.mk k 0 s (levL ls y).2.2 []) else none).getD (Tm.mk k n s ls []) = _)
      refine ⟨⟨fun h => ⟨h1.1 h, trivial⟩, fun h => h1.2 h.1⟩, fun h => ⟨(h2 h).1, ?_⟩⟩
      have e := (h2 h).2
      cases hs : sameL (levL ls y).2.2 ls
      · rw [if_pos ⟨h, rfl⟩, e]
        have hn : n = 0 := node_ls0 ho.node.1 (fun hl => by
          have hl' : ls = [] := hl
          subst hl'
          rw [e] at hs
          have : sameL ([] : List Lv) [] = true := sameL_iff.2 rfl
          rw [List.map_nil, this] at hs
          cases hs)
        rw [hn]; rfl
      · rw [if_neg (by simp), ← e, sameL_iff.1 hs]; rfl
    · rw [if_neg hts]
      have hls : ls = [] := node_inner ho.node.1 (show ts ≠ [] by simpa using hts)
      subst hls
      obtain ⟨h1, h2⟩ := thrL_lev (L := L) k ts y (d + 1) u (fun x hx => ho.down x hx) hy
      unfold fin
      refine ⟨⟨fun h => ⟨fun l hl => (by cases hl), h1.1 h⟩, fun h => h1.2 h.2⟩, fun h => ?_⟩
      have h' : (thrL lfLev k ts y u).2.1 = 0 := h
      obtain ⟨h3, h4, h5⟩ := h2 h'
      refine ⟨h3, ?_⟩
      cases hcc : (thrL lfLev k ts y u).2.2.1
      · rw [if_neg (by simp), ← h4, h5 hcc]
        rfl
      · rw [if_pos (by simp [h']), ← h4]
        rfl
theorem thrL_lev {L : List Lv} (k : Int) : ∀ (ts : List Tm) (y : List Lv) (d u : Int), (∀ x ∈ ts, OkMay x d) → LGood L y → ((thrL lfLev k ts y u).2.1 = 0 ↔ allLL (okL L) ts) ∧ ((thrL lfLev k ts y u).2.1 = 0 → LGood L (thrL lfLev k ts y u).1 ∧ (thrL lfLev k ts y u).2.2.2 = lmapL (fL L) ts ∧ ((thrL lfLev k ts y u).2.2.1 = false → (thrL lfLev k ts y u).2.2.2 = ts))
  | [], y, d, u, _, hy => by rw [thrL, allLL, lmapL]; exact ⟨⟨fun _ => trivial, fun _ => rfl⟩, fun _ => ⟨hy, rfl, fun _ => rfl⟩⟩
  | t :: r, y, d, u, ho, hy => by
    obtain ⟨h1, h2⟩ := thr_lev (L := L) t y d (und k r.isEmpty u) (ho t (by simp)) hy
    rw [thrL, allLL, lmapL]
    by_cases he : (t.thr lfLev y (und k r.isEmpty u)).2.1 = 0
    · rw [if_pos he]
      obtain ⟨g1, e1⟩ := h2 he
      obtain ⟨h3, h4⟩ := thrL_lev (L := L) k r (t.thr lfLev y (und k r.isEmpty u)).1 d (und k r.isEmpty u) (fun x hx => ho x (by simp [hx])) g1
      refine ⟨⟨fun h => ⟨h1.1 he, h3.1 h⟩, fun h => h3.2 h.2⟩, fun h => ?_⟩
      obtain ⟨h5, h6, h7⟩ := h4 h
      refine ⟨h5, by rw [← h6, ← e1], fun hc => ?_⟩
      simp only [Bool.or_eq_false_iff] at hc
      have h8 : (t.thr lfLev y (und k r.isEmpty u)).2.2 = none := by simpa using hc.1
      rw [h7 hc.2, h8]; rfl
    · rw [if_neg he]
      exact ⟨⟨fun h => absurd h he, fun h => absurd (h1.2 h.1) he⟩, fun h => absurd h he⟩
end

/-- What Levels answers. -/
noncomputable def levelsAns (t : Tm) (L : List Lv) : Tm × Int := if t.may = false then (zeroT, 1) else ansT (tAns t (t.thr lfLev L 0)) (t.thr lfLev L 0).2.1
theorem levels_is {t : Tm} {L : List Lv} (ht : t.may = true) (ha : t.allL (okL L)) {x : Tm} (hx : t.lmap (fL L) = x) (hm : x.may = true) : levelsAns t L = (x, 0) := by
  obtain ⟨h1, h2⟩ := thr_lev (L := L) t L 1 0 (OkMay.start ht) (.inl rfl)
  have h0 := h1.2 ha
  unfold levelsAns tAns ansT
  rw [if_neg (by rw [ht]; simp), if_pos h0, (h2 h0).2, if_neg (by simp [h0]), hx, if_pos hm]
theorem levels_out {t : Tm} {L : List Lv} (ht : t.may = true) (h : (levelsAns t L).2 = 0) : t.allL (okL L) ∧ (t.lmap (fL L)).may = true := by
  obtain ⟨h1, h2⟩ := thr_lev (L := L) t L 1 0 (OkMay.start ht) (.inl rfl)
  unfold levelsAns tAns ansT at h
  rw [if_neg (by rw [ht]; simp)] at h
  by_cases h0 : (t.thr lfLev L 0).2.1 = 0
  · rw [if_pos h0, (h2 h0).2, if_neg (by simp [h0])] at h
    refine ⟨h1.1 h0, ?_⟩
    cases hm : (t.lmap (fL L)).may
    · rw [hm] at h
      simp at h
    · rfl
  · rw [if_pos h0] at h
    exact absurd h h0
theorem lift_three {x : Tm} (hx : x.may = true) (hf : x.free ≤ 1000) : liftAns x 0 3 = (x.put (gLift 0 3) 0, 0) ∧ (x.put (gLift 0 3) 0).may = true :=
  lift_ok hx (x := 3) (by omega) (by omega) (fun p h => by have := vps_free hx p h; omega)
/-- What SubstLevels asks. -/
theorem levels_facts {t u : Tm} {L : List Lv} (ht : t.may = true) (hu : u.may = true) (zt : t.size ≤ 30) (zu : u.size ≤ 30) (ft : t.free ≤ 1000) (fu : u.free ≤ 1000) (h1 : (levelsAns t L).2 = 0) (h2 : (levelsAns u L).2 = 0) :
    ∃ x y a b up d, levelsAns t L = (x, 0) ∧ levelsAns u L = (y, 0) ∧ instAns x [y] = (a, 0) ∧ instAns t [u] = (b, 0) ∧ levelsAns b L = (a, 0) ∧ liftAns t 0 3 = (up, 0) ∧ levelsAns up L = (d, 0) ∧ liftAns x 0 3 = (d, 0) := by
  obtain ⟨at', mt⟩ := levels_out ht h1
  obtain ⟨au, mu⟩ := levels_out hu h2
  have st := lmap_size (fL L) t
  have su := lmap_size (fL L) u
  have ft2 := lmap_free ht mt
  have fu2 := lmap_free hu mu
  have e1 := ht_size t
  have e2 := ht_size u
  have e3 := ht_size (t.lmap (fL L))
  have e4 := ht_size (u.lmap (fL L))
  have lu : ∀ x ∈ [u], x.may = true := by simp [hu]
  have ly : ∀ x ∈ [u.lmap (fL L)], x.may = true := by simp [mu]
  obtain ⟨a1, a2, _, _⟩ := inst_ok mt ly 30 30 30 30 (by omega) (by omega) (by omega) (by omega) (fun x hx => by
    simp at hx; subst hx; exact ⟨by omega, by omega, by omega⟩) (by omega) (by omega)
  obtain ⟨b1, b2, _, _⟩ := inst_ok ht lu 30 30 30 30 zt (by omega) (by omega) (by omega) (fun x hx => by
    simp at hx; subst hx; exact ⟨by omega, by omega, by omega⟩) (by omega) (by omega)
  obtain ⟨c1, c2⟩ := lift_three ht ft
  obtain ⟨d1, d2⟩ := lift_three mt (by omega)
  exact ⟨_, _, _, _, _, _, levels_is ht at' rfl mt, levels_is hu au rfl mu, a1, b1, levels_is b2 (allL_inst at' au 0) (inst_lmap (fL L) u t 0).symm a2, c1, levels_is c2 (allL_lift at' 0 3 0) (lift_lmap (fL L) 0 3 t 0).symm d2, d1⟩
end Trm

theorem Trm.leaf_levels {B N K : Nat} (hKN : K < N) (hBK : B ≤ K) (bo : Option Addr) (bc : Nat) (y0 : List Lv) (hy0 : y0.length ≤ 1000000) (hbc : y0.length ≤ bc) : Leaf B N (fun q => q = K) K 129 lfLev (LevInv bo bc y0 B K) (fun _ => True) where
  calls st t b o u w _ hi hn _ _ _ hat hB hN _ := levels1_any hKN hBK bo bc y0 hy0 hbc st t b o u w hi hn hat hB hN
  good _ _ _ _ _ _ _ := trivial
  kind st t u y hn _ h := by
    unfold lfLev at h
    dsimp only at h
    split at h
    · cases h
      have := (node_few hn).2.2.1
      show t.k ≠ 0
      omega
    · cases h
  keep := LevInv.keep hKN (by omega)
  low q hq := by subst hq; exact hBK
  enter args w := by kernel_rfl

set_option maxRecDepth 100000 in
set_option maxHeartbeats 4000000 in
theorem Levels_any (t : Tm) (h : Hd) (L : List Lv) (bo : Option Addr) (bc : Nat) (w : World) (hin : t.In w.heap.size w h) (hr : LRow w bo L) (hlo : Low w.heap.size bo L.length) (hL : L.length ≤ 1000000) (hbc : L.length ≤ bc) :
    Calls Try.prog 76 #[t.val h, .slice bo L.length bc] w fun e w' => ∃ h', e = .returned (.tuple #[(levelsAns t L).1.val h', .int .i64 (levelsAns t L).2]) ∧ (levelsAns t L).1.In w'.heap.size w' h' ∧ Below w.heap.size w w' := by
  have HM := Lib.hid (fun (W : World) (hW : Below w.heap.size w W) => PMay_any t h W (Tm.In.mono hW.size _ _ (Tm.In.below hW _ _ hin)))
  have HB0 := Lib.hid ((below_two w (t.box h) (.cells #[.slice bo L.length bc] 45)).alloc (by simp; omega) (.cells #[.int .u8 0, .int .i64 0, .string no, .slice none 0 0, .slice none 0 0] 60))
  have HX0 := Lib.hid (keepA (new1of2 w (t.box h) (.cells #[.slice bo L.length bc] 45)) (.cells #[.int .u8 0, .int .i64 0, .string no, .slice none 0 0, .slice none 0 0] 60))
  have HK0 := Lib.hid (keepA (new2 w (t.box h) (.cells #[.slice bo L.length bc] 45)) (.cells #[.int .u8 0, .int .i64 0, .string no, .slice none 0 0, .slice none 0 0] 60))
  have HA0 := Lib.hid (new3 w (t.box h) (.cells #[.slice bo L.length bc] 45) (.cells #[.int .u8 0, .int .i64 0, .string no, .slice none 0 0, .slice none 0 0] 60))
  have HIN := Lib.hid hin
  have HR := Lib.hid hr
  have HLO := Lib.hid hlo
  clear hin hr hlo
  cases hmay : t.may
  · have hs : levelsAns t L = (zeroT, 1) := if_pos hmay
    rw [hs]
    rw [hmay] at HM
    unfold Tm.val at HM ⊢
    dsimp only [Tm.vals] at HM ⊢
    clear hs hmay
    go_enter Try.func76, Try.ntmps76
    go_wp2_with fail
    refine (HM.out _ HB0.out).mono ?_
    rintro e w1 ⟨rfl, b1⟩
    have hA1 := Lvl.keep b1 HA0.out
    have HB1 := Lib.hid (Trm.go HB0.out b1)
    obtain ⟨a0, a1, a2, a3, a4⟩ := five_cells hA1
    obtain ⟨f0, f1, f2, f3, f4⟩ := five_free hA1
    have HA1 := Lib.hid hA1
    clear hA1 b1
    go_wp2_with fail
    have h5 := putT_self HA1.out (.int .u8 0) (.int .i64 0) (.string no) (.slice none 0 0) (.slice none 0 0)
    have b5 := putT_below HB1.out (by omega : w.heap.size ≤ w.heap.size + 1 + 1) (.int .u8 0) (.int .i64 0) (.string no) (.slice none 0 0) (.slice none 0 0)
    unfold putT no at h5 b5
    generalize hW : ((((w1.setCell ⟨w.heap.size + 1 + 1, 0, none⟩ (.int .u8 0)).setCell ⟨w.heap.size + 1 + 1, 1, none⟩ (.int .i64 0)).setCell ⟨w.heap.size + 1 + 1, 2, none⟩ (.string ⟨#[]⟩)).setCell ⟨w.heap.size + 1 + 1, 3, none⟩ (.slice none 0 0)).setCell ⟨w.heap.size + 1 + 1, 4, none⟩ (.slice none 0 0) = W4 at h5 b5 ⊢
    obtain ⟨e0, e1, e2, e3, e4⟩ := five_cells h5
    clear hW
    exact bodyPost_ret (v := .tuple #[zeroT.val ⟨none, 0, none, 0⟩, .int .i64 1]) (by simp [results, Try.results76, go_sem, e0, e1, e2, e3, e4, zeroT, Tm.val, Tm.vals, Tm.k, Tm.n, Tm.s, Tm.ls, Tm.ts, no]) rfl ⟨⟨none, 0, none, 0⟩, rfl, leaf_in (by decide) (by decide) (by decide) (by decide) (by decide), b5⟩
  · obtain ⟨a, ha⟩ : ∃ a, a = levelsAns t L := ⟨_, rfl⟩
    obtain ⟨y, hy⟩ : ∃ y, y = tAns t (t.thr lfLev L 0) := ⟨_, rfl⟩
    obtain ⟨z, hz⟩ : ∃ z, z = (t.thr lfLev L 0).2.1 := ⟨_, rfl⟩
    have hya : ansT y z = a := by
      rw [ha, hy, hz]
      unfold levelsAns
      rw [if_neg (by rw [hmay]; simp)]
    rw [← ha]
    rw [hmay] at HM
    have HTU := Lib.hid (fun (W : World) (hW : Below w.heap.size w W) (hK : W.heap[w.heap.size + 1]? = some (.cells #[.slice bo L.length bc] 45)) => show Calls Try.prog 121 #[t.val h, fnv 129 (w.heap.size + 1)] W (fun e w' => ∃ h', e = .returned (.tuple #[y.val h', .int .i64 z]) ∧ FirmS (fun q => w.heap.size ≤ q ∧ q < W.heap.size) w' y h' ∧ RanS (fun q => q = w.heap.size + 1) W w') from by
      have hKl := (Array.getElem?_eq_some_iff.1 hK).1
      have := turned_any (leaf_levels (B := w.heap.size) (N := W.heap.size) hKl (by omega) bo bc L hL hbc) t h L W hmay trivial ⟨hK, Or.inl rfl, LRow.low HR.out HLO.out hW, HLO.out⟩ (Tm.In.below hW _ _ HIN.out) hW.size (Nat.le_refl _) (fun q hq => by subst hq; exact hKl)
      rw [← hy, ← hz] at this
      exact this.mono (fun _ _ ⟨h', he, hf, _, hr⟩ => ⟨h', he, hf, hr⟩))
    have HAN := Lib.hid (fun (W : World) (h' : Hd) (hi : y.In W.heap.size W h') => by
      have := sub_answer_any y h' z W hi
      rw [hya] at this
      exact this)
    clear ha hy hz hya hmay
    obtain ⟨a1, a2⟩ := a
    unfold Tm.val at HM HTU HAN ⊢
    dsimp only [Tm.vals] at HM HTU HAN ⊢
    go_enter Try.func76, Try.ntmps76
    go_wp2_with fail
    refine (HM.out _ HB0.out).mono ?_
    rintro e w1 ⟨rfl, b1⟩
    have HB1 := Lib.hid (Trm.go HB0.out b1)
    have HA1 := Lib.hid (Lvl.keep b1 HA0.out)
    have hX1 := Lvl.keep b1 HX0.out
    have HK1 := Lib.hid (Lvl.keep b1 HK0.out)
    obtain ⟨x0, x1, x2, x3, x4⟩ := five_cells (show w1.heap[w.heap.size]? = some (.cells #[.int .u8 t.k, .int .i64 t.n, .string t.s, .slice h.lo t.ls.length h.lc, .slice h.to t.ts.length h.tc] 60) from hX1)
    have lX := (Array.getElem?_eq_some_iff.1 hX1).1
    clear b1 hX1
    go_wp2_with fail
    refine (HTU.out _ HB1.out HK1.out).mono ?_
    rintro e wt ⟨ht, rfl, iT, rT⟩
    have HBt := Lib.hid ((HB1.out).trans (rT.below (fun q hq => by subst hq; omega) HB1.out.size))
    have HAt := Lib.hid (rT.keep HA1.out (by omega))
    have HIt := Lib.hid iT
    have hlw1 := (Array.getElem?_eq_some_iff.1 HA1.out).1
    clear iT rT x0 x1 x2 x3 x4 lX
    go_wp2_with fail
    refine (HAN.out _ _ HIt.out.here).mono ?_
    rintro e wa ⟨ha, rfl, iA, ba⟩
    have HBa := Lib.hid (Trm.go HBt.out ba)
    have hAa := Lvl.keep ba HAt.out
    obtain ⟨q0, q1, q2, q3, q4⟩ := five_cells hAa
    obtain ⟨f0, f1, f2, f3, f4⟩ := five_free hAa
    have HAa := Lib.hid hAa
    have HIa := Lib.hid (iA _ HIt.out)
    clear ba iA hAa
    go_wp2_with fail
    have h5 := putT_self HAa.out (.int .u8 a1.k) (.int .i64 a1.n) (.string a1.s) (.slice ha.lo a1.ls.length ha.lc) (.slice ha.to a1.ts.length ha.tc)
    have b5 := putT_below HBa.out (by omega : w.heap.size ≤ w.heap.size + 1 + 1) (.int .u8 a1.k) (.int .i64 a1.n) (.string a1.s) (.slice ha.lo a1.ls.length ha.lc) (.slice ha.to a1.ts.length ha.tc)
    have r5 := putT_ran wa (w.heap.size + 1 + 1) (.int .u8 a1.k) (.int .i64 a1.n) (.string a1.s) (.slice ha.lo a1.ls.length ha.lc) (.slice ha.to a1.ts.length ha.tc)
    unfold putT at h5 b5 r5
    generalize hW : ((((wa.setCell ⟨w.heap.size + 1 + 1, 0, none⟩ (.int .u8 a1.k)).setCell ⟨w.heap.size + 1 + 1, 1, none⟩ (.int .i64 a1.n)).setCell ⟨w.heap.size + 1 + 1, 2, none⟩ (.string a1.s)).setCell ⟨w.heap.size + 1 + 1, 3, none⟩ (.slice ha.lo a1.ls.length ha.lc)).setCell ⟨w.heap.size + 1 + 1, 4, none⟩ (.slice ha.to a1.ts.length ha.tc) = W4 at h5 b5 r5 ⊢
    obtain ⟨e0, e1, e2, e3, e4⟩ := five_cells h5
    clear hW
    refine bodyPost_ret (v := .tuple #[a1.val ha, .int .i64 a2]) (by simp [results, Try.results76, go_sem, e0, e1, e2, e3, e4, Tm.val, Tm.vals]) rfl ⟨ha, rfl, ?_, b5⟩
    exact (HIa.out.step (RanS.of_ran r5 ⟨by omega, hlw1⟩)).here

/-! The law's walk. -/
set_option maxRecDepth 100000 in
set_option maxHeartbeats 40000000 in
theorem law_subst_levels (t u : Tm) (ht hu : Hd) (L : List Lv) (bo : Option Addr) (bc : Nat) (w : World) (hin : t.In w.heap.size w ht) (hin2 : u.In w.heap.size w hu) (hr : LRow w bo L) (hlo : Low w.heap.size bo L.length) (hbc : L.length ≤ bc) :
    Calls Try.prog 14 #[t.val ht, u.val hu, .slice bo L.length bc] w fun e w' => e = .returned (.bool true) ∧ Below w.heap.size w w' := by
  have HIN := Lib.hid hin
  have HIN2 := Lib.hid hin2
  have HLV := Lib.hid (fun (W : World) (hW : Below w.heap.size w W) => (⟨LRow.low hr hlo hW, fun hp a ha => Nat.lt_of_lt_of_le (hlo hp a ha) hW.size⟩ : LRow W bo L ∧ Low W.heap.size bo L.length))
  have HF := Lib.hid (fun (W : World) (g : Nat) (hW : Below w.heap.size w W) (hg : W.heap[g]? = some (.cells #[.int .u8 t.k, .int .i64 t.n, .string t.s, .slice ht.lo t.ls.length ht.lc, .slice ht.to t.ts.length ht.tc, .int .u8 u.k, .int .i64 u.n, .string u.s, .slice hu.lo u.ls.length hu.lc, .slice hu.to u.ts.length hu.tc] 60)) => small_any [t, u] (some ⟨g, 0, none⟩) 2 W (row_two hg (carry hin hW) (carry hin2 hW)) (by simp))
  clear hin hin2 hr hlo
  unfold Tm.val
  dsimp only [Tm.vals]
  obtain ⟨F, hFe⟩ : ∃ F, [t, u].all smallT = F := ⟨_, rfl⟩
  rw [hFe] at HF
  have b2 := below_two w (.cells (t.vals ht) 60) (.cells (u.vals hu) 60)
  have b3 := below_one ((w.alloc (.cells (t.vals ht) 60)).alloc (.cells (u.vals hu) 60)) (.cells #[.int .u8 t.k, .int .i64 t.n, .string t.s, .slice ht.lo t.ls.length ht.lc, .slice ht.to t.ts.length ht.tc, .int .u8 u.k, .int .i64 u.n, .string u.s, .slice hu.lo u.ls.length hu.lc, .slice hu.to u.ts.length hu.tc] 60)
  have HB_0 := Lib.hid (Trm.go b2 b3)
  have XT_0 := Lib.hid (Lvl.keep b3 (new1of2 w (.cells (t.vals ht) 60) (.cells (u.vals hu) 60)))
  have XU_0 := Lib.hid (Lvl.keep b3 (new2 w (.cells (t.vals ht) 60) (.cells (u.vals hu) 60)))
  have XS_0 := Lib.hid (World.alloc_heap_new ((w.alloc (.cells (t.vals ht) 60)).alloc (.cells (u.vals hu) 60)) (.cells #[.int .u8 t.k, .int .i64 t.n, .string t.s, .slice ht.lo t.ls.length ht.lc, .slice ht.to t.ts.length ht.tc, .int .u8 u.k, .int .i64 u.n, .string u.s, .slice hu.lo u.ls.length hu.lc, .slice hu.to u.ts.length hu.tc] 60))
  have hg3 : ((w.alloc (.cells (t.vals ht) 60)).alloc (.cells (u.vals hu) 60)).heap.size = w.heap.size + 1 + 1 := by simp
  rw [hg3] at XS_0
  clear b2 b3 hg3
  have HFE := Lib.hid hFe
  clear hFe
  go_enter Try.func14, Try.ntmps14
  go_wp2_with fail
  refine (HF.out _ _ HB_0.out XS_0.out).mono ?_
  rintro e v1 ⟨rfl, b1⟩
  have HB_1 := Lib.hid (Trm.go HB_0.out b1)
  have XT_1 := Lib.hid (Lvl.keep b1 XT_0.out)
  have XU_1 := Lib.hid (Lvl.keep b1 XU_0.out)
  clear b1
  clear HB_0 XT_0 XU_0
  clear XS_0
  obtain ⟨cT0, cT1, cT2, cT3, cT4⟩ := five_cells (show v1.heap[w.heap.size]? = some (.cells #[.int .u8 t.k, .int .i64 t.n, .string t.s, .slice ht.lo t.ls.length ht.lc, .slice ht.to t.ts.length ht.tc] 60) from XT_1.out)
  have lT : w.heap.size < v1.heap.size := (Array.getElem?_eq_some_iff.1 XT_1.out).1
  obtain ⟨cU0, cU1, cU2, cU3, cU4⟩ := five_cells (show v1.heap[w.heap.size + 1]? = some (.cells #[.int .u8 u.k, .int .i64 u.n, .string u.s, .slice hu.lo u.ls.length hu.lc, .slice hu.to u.ts.length hu.tc] 60) from XU_1.out)
  have lU : w.heap.size + 1 < v1.heap.size := (Array.getElem?_eq_some_iff.1 XU_1.out).1
  cases F
  · go_wp2_with fail
    refine (sub_works_any _).mono ?_
    rintro e v2 ⟨rfl, b2⟩
    clear cT0 cT1 cT2 cT3 cT4 cU0 cU1 cU2 cU3 cU4 lT lU
    have HB_2 := Lib.hid (Trm.go HB_1.out b2)
    have XT_2 := Lib.hid (Lvl.keep b2 XT_1.out)
    have XU_2 := Lib.hid (Lvl.keep b2 XU_1.out)
    clear b2
    clear HB_1 XT_1 XU_1
    go_wp2_with fail
    go_ret
    exact ⟨rfl, HB_2.out⟩
  · by_cases hten : L.length ≤ 10
    · have d1 : decide ((10 : Int) < (L.length : Int)) = false := by simp; omega
      obtain ⟨⟨mt, zt, ft⟩, mu, zu, fu⟩ := smalls2 HFE.out
      obtain ⟨x, e1, hx⟩ : ∃ x e1, levelsAns t L = (x, e1) := ⟨_, _, rfl⟩
      obtain ⟨y, e2, hy⟩ : ∃ y e2, levelsAns u L = (y, e2) := ⟨_, _, rfl⟩
      have HLT := Lib.hid (fun (W : World) (hW : Below w.heap.size w W) => show Calls Try.prog 76 #[.agg #[.int .u8 t.k, .int .i64 t.n, .string t.s, .slice ht.lo t.ls.length ht.lc, .slice ht.to t.ts.length ht.tc], .slice bo L.length bc] W (fun e w' => ∃ h', e = .returned (.tuple #[x.val h', .int .i64 e1]) ∧ x.In w'.heap.size w' h' ∧ Below W.heap.size W w') from by
        have := Levels_any t ht L bo bc W (carry HIN.out hW) (HLV.out W hW).1 (HLV.out W hW).2 (by omega) hbc
        rw [hx] at this
        exact this)
      have HLU := Lib.hid (fun (W : World) (hW : Below w.heap.size w W) => show Calls Try.prog 76 #[.agg #[.int .u8 u.k, .int .i64 u.n, .string u.s, .slice hu.lo u.ls.length hu.lc, .slice hu.to u.ts.length hu.tc], .slice bo L.length bc] W (fun e w' => ∃ h', e = .returned (.tuple #[y.val h', .int .i64 e2]) ∧ y.In w'.heap.size w' h' ∧ Below W.heap.size W w') from by
        have := Levels_any u hu L bo bc W (carry HIN2.out hW) (HLV.out W hW).1 (HLV.out W hW).2 (by omega) hbc
        rw [hy] at this
        exact this)
      have HX := Lib.hid hx
      have HY := Lib.hid hy
      have HTEN := Lib.hid hten
      have HBC := Lib.hid hbc
      have HFA := Lib.hid (fun h1 h2 => levels_facts (L := L) mt mu zt zu ft fu h1 h2)
      clear hx hy hten hbc mt zt ft mu zu fu HF HFE
      go_wp2_with fail
      refine (HLT.out _ HB_1.out).mono ?_
      rintro e v2 ⟨h2, rfl, i2, b2⟩
      clear cT0 cT1 cT2 cT3 cT4 cU0 cU1 cU2 cU3 cU4 lT lU
      have HB_2 := Lib.hid (Trm.go HB_1.out b2)
      have XT_2 := Lib.hid (Lvl.keep b2 XT_1.out)
      have XU_2 := Lib.hid (Lvl.keep b2 XU_1.out)
      have IA_2 := Lib.hid i2
      clear b2 i2
      clear HB_1 XT_1 XU_1
      dsimp only [Tm.val, Tm.vals]
      have e3 := below_one v2 (.cells (x.vals h2) 60)
      have HB_3 := Lib.hid (Trm.go HB_2.out e3)
      have XT_3 := Lib.hid (Lvl.keep e3 XT_2.out)
      have XU_3 := Lib.hid (Lvl.keep e3 XU_2.out)
      have IA_3 := Lib.hid (carry IA_2.out e3)
      have XA_3 := Lib.hid (World.alloc_heap_new v2 (.cells (x.vals h2) 60))
      clear e3
      obtain ⟨cU0, cU1, cU2, cU3, cU4⟩ := five_cells (show v2.heap[w.heap.size + 1]? = some (.cells #[.int .u8 u.k, .int .i64 u.n, .string u.s, .slice hu.lo u.ls.length hu.lc, .slice hu.to u.ts.length hu.tc] 60) from XU_2.out)
      have lU : w.heap.size + 1 < v2.heap.size := (Array.getElem?_eq_some_iff.1 XU_2.out).1
      clear HB_2 XT_2 XU_2 IA_2
      go_wp2_with fail
      refine (HLU.out _ HB_3.out).mono ?_
      rintro e v4 ⟨h4, rfl, i4, b4⟩
      clear cU0 cU1 cU2 cU3 cU4 lU
      have HB_4 := Lib.hid (Trm.go HB_3.out b4)
      have XT_4 := Lib.hid (Lvl.keep b4 XT_3.out)
      have XU_4 := Lib.hid (Lvl.keep b4 XU_3.out)
      have XA_4 := Lib.hid (Lvl.keep b4 XA_3.out)
      have IA_4 := Lib.hid (carry IA_3.out b4)
      have IB_4 := Lib.hid i4
      clear b4 i4
      clear HB_3 XT_3 XU_3 XA_3 IA_3
      dsimp only [Tm.val, Tm.vals]
      have e5 := below_one v4 (.cells (y.vals h4) 60)
      have HB_5 := Lib.hid (Trm.go HB_4.out e5)
      have XT_5 := Lib.hid (Lvl.keep e5 XT_4.out)
      have XU_5 := Lib.hid (Lvl.keep e5 XU_4.out)
      have XA_5 := Lib.hid (Lvl.keep e5 XA_4.out)
      have IA_5 := Lib.hid (carry IA_4.out e5)
      have IB_5 := Lib.hid (carry IB_4.out e5)
      have XB_5 := Lib.hid (World.alloc_heap_new v4 (.cells (y.vals h4) 60))
      clear e5
      obtain ⟨cT0, cT1, cT2, cT3, cT4⟩ := five_cells (show v4.heap[w.heap.size]? = some (.cells #[.int .u8 t.k, .int .i64 t.n, .string t.s, .slice ht.lo t.ls.length ht.lc, .slice ht.to t.ts.length ht.tc] 60) from XT_4.out)
      have lT : w.heap.size < v4.heap.size := (Array.getElem?_eq_some_iff.1 XT_4.out).1
      obtain ⟨cU0, cU1, cU2, cU3, cU4⟩ := five_cells (show v4.heap[w.heap.size + 1]? = some (.cells #[.int .u8 u.k, .int .i64 u.n, .string u.s, .slice hu.lo u.ls.length hu.lc, .slice hu.to u.ts.length hu.tc] 60) from XU_4.out)
      have lU : w.heap.size + 1 < v4.heap.size := (Array.getElem?_eq_some_iff.1 XU_4.out).1
      obtain ⟨cA0, cA1, cA2, cA3, cA4⟩ := five_cells (show v4.heap[v2.heap.size]? = some (.cells #[.int .u8 x.k, .int .i64 x.n, .string x.s, .slice h2.lo x.ls.length h2.lc, .slice h2.to x.ts.length h2.tc] 60) from XA_4.out)
      have lA : v2.heap.size < v4.heap.size := (Array.getElem?_eq_some_iff.1 XA_4.out).1
      clear HB_4 XT_4 XU_4 XA_4 IA_4 IB_4
      by_cases hq1 : e1 = 0
      · subst hq1
        by_cases hq2 : e2 = 0
        · subst hq2
          obtain ⟨x', y', a, b, up, d, q1, q2, q3, q4, q5, q6, q7, q8⟩ := HFA.out (by rw [HX.out]) (by rw [HY.out])
          obtain rfl : x = x' := by have := HX.out.symm.trans q1; simpa using this
          obtain rfl : y = y' := by have := HY.out.symm.trans q2; simpa using this
          have hten := HTEN.out
          have hbc := HBC.out
          have A1 := Lib.hid (fun (W : World) (g : Nat) (hW : Below w.heap.size w W) (k1 : Hd) (ik1 : x.In W.heap.size W k1) (k2 : Hd) (ik2 : y.In W.heap.size W k2) (hg : W.heap[g]? = some (.cells #[.int .u8 y.k, .int .i64 y.n, .string y.s, .slice k2.lo y.ls.length k2.lc, .slice k2.to y.ts.length k2.tc] 60)) => show Calls Try.prog 78 #[.agg #[.int .u8 x.k, .int .i64 x.n, .string x.s, .slice k1.lo x.ls.length k1.lc, .slice k1.to x.ts.length k1.tc], .slice (some ⟨g, 0, none⟩) 1 1] W (fun e w' => ∃ h', e = .returned (.tuple #[a.val h', .int .i64 0]) ∧ a.In w'.heap.size w' h' ∧ Below W.heap.size W w') from by
            have := Inst_any x k1 [y] (some ⟨g, 0, none⟩) 1 W ik1 (row_one hg ik2) (by simp)
            rw [q3] at this
            exact this)
          have A2 := Lib.hid (fun (W : World) (g : Nat) (hW : Below w.heap.size w W)  (hg : W.heap[g]? = some (.cells #[.int .u8 u.k, .int .i64 u.n, .string u.s, .slice hu.lo u.ls.length hu.lc, .slice hu.to u.ts.length hu.tc] 60)) => show Calls Try.prog 78 #[.agg #[.int .u8 t.k, .int .i64 t.n, .string t.s, .slice ht.lo t.ls.length ht.lc, .slice ht.to t.ts.length ht.tc], .slice (some ⟨g, 0, none⟩) 1 1] W (fun e w' => ∃ h', e = .returned (.tuple #[b.val h', .int .i64 0]) ∧ b.In w'.heap.size w' h' ∧ Below W.heap.size W w') from by
            have := Inst_any t ht [u] (some ⟨g, 0, none⟩) 1 W (carry HIN.out hW) (row_one hg (carry HIN2.out hW)) (by simp)
            rw [q4] at this
            exact this)
          have HLB := Lib.hid (fun (W : World) (hW : Below w.heap.size w W) (k1 : Hd) (ix : b.In W.heap.size W k1) => show Calls Try.prog 76 #[.agg #[.int .u8 b.k, .int .i64 b.n, .string b.s, .slice k1.lo b.ls.length k1.lc, .slice k1.to b.ts.length k1.tc], .slice bo L.length bc] W (fun e w' => ∃ h', e = .returned (.tuple #[a.val h', .int .i64 0]) ∧ a.In w'.heap.size w' h' ∧ Below W.heap.size W w') from by
            have := Levels_any b k1 L bo bc W ix (HLV.out W hW).1 (HLV.out W hW).2 (by omega) hbc
            rw [q5] at this
            exact this)
          have HLF := Lib.hid (fun (W : World) (hW : Below w.heap.size w W) => show Calls Try.prog 70 #[.agg #[.int .u8 t.k, .int .i64 t.n, .string t.s, .slice ht.lo t.ls.length ht.lc, .slice ht.to t.ts.length ht.tc], .int .i64 0, .int .i64 3] W (fun e w' => ∃ h', e = .returned (.tuple #[up.val h', .int .i64 0]) ∧ up.In w'.heap.size w' h' ∧ Below W.heap.size W w') from by
            have := Lift_any t ht 0 3 W (carry HIN.out hW) (by omega)
            rw [q6] at this
            exact this)
          have HLP := Lib.hid (fun (W : World) (hW : Below w.heap.size w W) (k1 : Hd) (ix : up.In W.heap.size W k1) => show Calls Try.prog 76 #[.agg #[.int .u8 up.k, .int .i64 up.n, .string up.s, .slice k1.lo up.ls.length k1.lc, .slice k1.to up.ts.length k1.tc], .slice bo L.length bc] W (fun e w' => ∃ h', e = .returned (.tuple #[d.val h', .int .i64 0]) ∧ d.In w'.heap.size w' h' ∧ Below W.heap.size W w') from by
            have := Levels_any up k1 L bo bc W ix (HLV.out W hW).1 (HLV.out W hW).2 (by omega) hbc
            rw [q7] at this
            exact this)
          have HLX := Lib.hid (fun (W : World) (hW : Below w.heap.size w W) (k1 : Hd) (ix : x.In W.heap.size W k1) => show Calls Try.prog 70 #[.agg #[.int .u8 x.k, .int .i64 x.n, .string x.s, .slice k1.lo x.ls.length k1.lc, .slice k1.to x.ts.length k1.tc], .int .i64 0, .int .i64 3] W (fun e w' => ∃ h', e = .returned (.tuple #[d.val h', .int .i64 0]) ∧ d.In w'.heap.size w' h' ∧ Below W.heap.size W w') from by
            have := Lift_any x k1 0 3 W ix (by omega)
            rw [q8] at this
            exact this)
          have HSA := Lib.hid (fun (W : World) (h h' : Hd) (hi : a.In W.heap.size W h) (hi' : a.In W.heap.size W h') => show Calls Try.prog 53 #[.agg #[.int .u8 a.k, .int .i64 a.n, .string a.s, .slice h.lo a.ls.length h.lc, .slice h.to a.ts.length h.tc], .agg #[.int .u8 a.k, .int .i64 a.n, .string a.s, .slice h'.lo a.ls.length h'.lc, .slice h'.to a.ts.length h'.tc]] W (fun e w' => e = .returned (.bool true) ∧ Below W.heap.size W w') from
            (show same a a = true from same_iff.2 rfl) ▸ RefSame_any a a h h' W hi hi')
          have HSD := Lib.hid (fun (W : World) (h h' : Hd) (hi : d.In W.heap.size W h) (hi' : d.In W.heap.size W h') => show Calls Try.prog 53 #[.agg #[.int .u8 d.k, .int .i64 d.n, .string d.s, .slice h.lo d.ls.length h.lc, .slice h.to d.ts.length h.tc], .agg #[.int .u8 d.k, .int .i64 d.n, .string d.s, .slice h'.lo d.ls.length h'.lc, .slice h'.to d.ts.length h'.tc]] W (fun e w' => e = .returned (.bool true) ∧ Below W.heap.size W w') from
            (show same d d = true from same_iff.2 rfl) ▸ RefSame_any d d h h' W hi hi')
          clear q1 q2 q3 q4 q5 q6 q7 q8 HFA HX HY HTEN HBC hten hbc HLT HLU HIN HIN2 HLV
          have es := below_one (v4.alloc (.cells (y.vals h4) 60)) (.cells #[.int .u8 y.k, .int .i64 y.n, .string y.s, .slice h4.lo y.ls.length h4.lc, .slice h4.to y.ts.length h4.tc] 60)
          have HB_6 := Lib.hid (Trm.go HB_5.out es)
          have XT_6 := Lib.hid (Lvl.keep es XT_5.out)
          have XU_6 := Lib.hid (Lvl.keep es XU_5.out)
          have XA_6 := Lib.hid (Lvl.keep es XA_5.out)
          have XB_6 := Lib.hid (Lvl.keep es XB_5.out)
          have IA_6 := Lib.hid (carry IA_5.out es)
          have IB_6 := Lib.hid (carry IB_5.out es)
          have XG := Lib.hid (new2 v4 (.cells (y.vals h4) 60) (.cells #[.int .u8 y.k, .int .i64 y.n, .string y.s, .slice h4.lo y.ls.length h4.lc, .slice h4.to y.ts.length h4.tc] 60))
          clear es
          clear HB_5 XT_5 XU_5 XA_5 XB_5 IA_5 IB_5
          go_wp2_with fail
          refine (A1.out _ (v4.heap.size + 1) HB_6.out h2 IA_6.out h4 IB_6.out XG.out).mono ?_
          rintro e v7 ⟨h7, rfl, i7, b7⟩
          clear cT0 cT1 cT2 cT3 cT4 cU0 cU1 cU2 cU3 cU4 cA0 cA1 cA2 cA3 cA4 lT lU lA
          have HB_7 := Lib.hid (Trm.go HB_6.out b7)
          have XT_7 := Lib.hid (Lvl.keep b7 XT_6.out)
          have XU_7 := Lib.hid (Lvl.keep b7 XU_6.out)
          have XA_7 := Lib.hid (Lvl.keep b7 XA_6.out)
          have XB_7 := Lib.hid (Lvl.keep b7 XB_6.out)
          have IA_7 := Lib.hid (carry IA_6.out b7)
          have IB_7 := Lib.hid (carry IB_6.out b7)
          have IC_7 := Lib.hid i7
          clear b7 i7
          clear HB_6 XT_6 XU_6 XA_6 XB_6 IA_6 IB_6
          dsimp only [Tm.val, Tm.vals]
          have e8 := below_one v7 (.cells (a.vals h7) 60)
          have HB_8 := Lib.hid (Trm.go HB_7.out e8)
          have XT_8 := Lib.hid (Lvl.keep e8 XT_7.out)
          have XU_8 := Lib.hid (Lvl.keep e8 XU_7.out)
          have XA_8 := Lib.hid (Lvl.keep e8 XA_7.out)
          have XB_8 := Lib.hid (Lvl.keep e8 XB_7.out)
          have IA_8 := Lib.hid (carry IA_7.out e8)
          have IB_8 := Lib.hid (carry IB_7.out e8)
          have IC_8 := Lib.hid (carry IC_7.out e8)
          have XC_8 := Lib.hid (World.alloc_heap_new v7 (.cells (a.vals h7) 60))
          clear e8
          obtain ⟨cT0, cT1, cT2, cT3, cT4⟩ := five_cells (show v7.heap[w.heap.size]? = some (.cells #[.int .u8 t.k, .int .i64 t.n, .string t.s, .slice ht.lo t.ls.length ht.lc, .slice ht.to t.ts.length ht.tc] 60) from XT_7.out)
          have lT : w.heap.size < v7.heap.size := (Array.getElem?_eq_some_iff.1 XT_7.out).1
          obtain ⟨cU0, cU1, cU2, cU3, cU4⟩ := five_cells (show v7.heap[w.heap.size + 1]? = some (.cells #[.int .u8 u.k, .int .i64 u.n, .string u.s, .slice hu.lo u.ls.length hu.lc, .slice hu.to u.ts.length hu.tc] 60) from XU_7.out)
          have lU : w.heap.size + 1 < v7.heap.size := (Array.getElem?_eq_some_iff.1 XU_7.out).1
          clear HB_7 XT_7 XU_7 XA_7 XB_7 IA_7 IB_7 IC_7
          clear XG
          have es := below_one (v7.alloc (.cells (a.vals h7) 60)) (.cells #[.int .u8 u.k, .int .i64 u.n, .string u.s, .slice hu.lo u.ls.length hu.lc, .slice hu.to u.ts.length hu.tc] 60)
          have HB_9 := Lib.hid (Trm.go HB_8.out es)
          have XT_9 := Lib.hid (Lvl.keep es XT_8.out)
          have XU_9 := Lib.hid (Lvl.keep es XU_8.out)
          have XA_9 := Lib.hid (Lvl.keep es XA_8.out)
          have XC_9 := Lib.hid (Lvl.keep es XC_8.out)
          have IA_9 := Lib.hid (carry IA_8.out es)
          have IC_9 := Lib.hid (carry IC_8.out es)
          have XG := Lib.hid (new2 v7 (.cells (a.vals h7) 60) (.cells #[.int .u8 u.k, .int .i64 u.n, .string u.s, .slice hu.lo u.ls.length hu.lc, .slice hu.to u.ts.length hu.tc] 60))
          clear es
          clear HB_8 XT_8 XU_8 XA_8 XC_8 IA_8 IC_8
          go_wp2_with fail
          refine (A2.out _ (v7.heap.size + 1) HB_9.out XG.out).mono ?_
          rintro e v10 ⟨h10, rfl, i10, b10⟩
          clear cT0 cT1 cT2 cT3 cT4 cU0 cU1 cU2 cU3 cU4 lT lU
          have HB_10 := Lib.hid (Trm.go HB_9.out b10)
          have XT_10 := Lib.hid (Lvl.keep b10 XT_9.out)
          have XU_10 := Lib.hid (Lvl.keep b10 XU_9.out)
          have XA_10 := Lib.hid (Lvl.keep b10 XA_9.out)
          have XC_10 := Lib.hid (Lvl.keep b10 XC_9.out)
          have IA_10 := Lib.hid (carry IA_9.out b10)
          have IC_10 := Lib.hid (carry IC_9.out b10)
          have ID_10 := Lib.hid i10
          clear b10 i10
          clear HB_9 XT_9 XU_9 XA_9 XC_9 IA_9 IC_9
          dsimp only [Tm.val, Tm.vals]
          have e11 := below_one v10 (.cells (b.vals h10) 60)
          have HB_11 := Lib.hid (Trm.go HB_10.out e11)
          have XT_11 := Lib.hid (Lvl.keep e11 XT_10.out)
          have XU_11 := Lib.hid (Lvl.keep e11 XU_10.out)
          have XA_11 := Lib.hid (Lvl.keep e11 XA_10.out)
          have XC_11 := Lib.hid (Lvl.keep e11 XC_10.out)
          have IA_11 := Lib.hid (carry IA_10.out e11)
          have IC_11 := Lib.hid (carry IC_10.out e11)
          have ID_11 := Lib.hid (carry ID_10.out e11)
          have XD_11 := Lib.hid (World.alloc_heap_new v10 (.cells (b.vals h10) 60))
          clear e11
          clear HB_10 XT_10 XU_10 XA_10 XC_10 IA_10 IC_10 ID_10
          clear XG
          go_wp2_with fail
          refine (HLB.out _ HB_11.out h10 ID_11.out).mono ?_
          rintro e v12 ⟨h12, rfl, i12, b12⟩
          have HB_12 := Lib.hid (Trm.go HB_11.out b12)
          have XT_12 := Lib.hid (Lvl.keep b12 XT_11.out)
          have XU_12 := Lib.hid (Lvl.keep b12 XU_11.out)
          have XA_12 := Lib.hid (Lvl.keep b12 XA_11.out)
          have XC_12 := Lib.hid (Lvl.keep b12 XC_11.out)
          have XD_12 := Lib.hid (Lvl.keep b12 XD_11.out)
          have IA_12 := Lib.hid (carry IA_11.out b12)
          have IC_12 := Lib.hid (carry IC_11.out b12)
          have ID_12 := Lib.hid (carry ID_11.out b12)
          have IE_12 := Lib.hid i12
          clear b12 i12
          clear HB_11 XT_11 XU_11 XA_11 XC_11 XD_11 IA_11 IC_11 ID_11
          dsimp only [Tm.val, Tm.vals]
          have e13 := below_one v12 (.cells (a.vals h12) 60)
          have HB_13 := Lib.hid (Trm.go HB_12.out e13)
          have XT_13 := Lib.hid (Lvl.keep e13 XT_12.out)
          have XU_13 := Lib.hid (Lvl.keep e13 XU_12.out)
          have XA_13 := Lib.hid (Lvl.keep e13 XA_12.out)
          have XC_13 := Lib.hid (Lvl.keep e13 XC_12.out)
          have XD_13 := Lib.hid (Lvl.keep e13 XD_12.out)
          have IA_13 := Lib.hid (carry IA_12.out e13)
          have IC_13 := Lib.hid (carry IC_12.out e13)
          have ID_13 := Lib.hid (carry ID_12.out e13)
          have IE_13 := Lib.hid (carry IE_12.out e13)
          have XE_13 := Lib.hid (World.alloc_heap_new v12 (.cells (a.vals h12) 60))
          clear e13
          obtain ⟨cT0, cT1, cT2, cT3, cT4⟩ := five_cells (show v12.heap[w.heap.size]? = some (.cells #[.int .u8 t.k, .int .i64 t.n, .string t.s, .slice ht.lo t.ls.length ht.lc, .slice ht.to t.ts.length ht.tc] 60) from XT_12.out)
          have lT : w.heap.size < v12.heap.size := (Array.getElem?_eq_some_iff.1 XT_12.out).1
          clear HB_12 XT_12 XU_12 XA_12 XC_12 XD_12 IA_12 IC_12 ID_12 IE_12
          go_wp2_with fail
          refine (HLF.out _ HB_13.out).mono ?_
          rintro e v14 ⟨h14, rfl, i14, b14⟩
          clear cT0 cT1 cT2 cT3 cT4 lT
          have HB_14 := Lib.hid (Trm.go HB_13.out b14)
          have XT_14 := Lib.hid (Lvl.keep b14 XT_13.out)
          have XU_14 := Lib.hid (Lvl.keep b14 XU_13.out)
          have XA_14 := Lib.hid (Lvl.keep b14 XA_13.out)
          have XC_14 := Lib.hid (Lvl.keep b14 XC_13.out)
          have XE_14 := Lib.hid (Lvl.keep b14 XE_13.out)
          have IA_14 := Lib.hid (carry IA_13.out b14)
          have IC_14 := Lib.hid (carry IC_13.out b14)
          have IE_14 := Lib.hid (carry IE_13.out b14)
          have IP_14 := Lib.hid i14
          clear b14 i14
          clear HB_13 XT_13 XU_13 XA_13 XC_13 XE_13 IA_13 IC_13 IE_13
          dsimp only [Tm.val, Tm.vals]
          have e15 := below_one v14 (.cells (up.vals h14) 60)
          have HB_15 := Lib.hid (Trm.go HB_14.out e15)
          have XT_15 := Lib.hid (Lvl.keep e15 XT_14.out)
          have XU_15 := Lib.hid (Lvl.keep e15 XU_14.out)
          have XA_15 := Lib.hid (Lvl.keep e15 XA_14.out)
          have XC_15 := Lib.hid (Lvl.keep e15 XC_14.out)
          have XE_15 := Lib.hid (Lvl.keep e15 XE_14.out)
          have IA_15 := Lib.hid (carry IA_14.out e15)
          have IC_15 := Lib.hid (carry IC_14.out e15)
          have IE_15 := Lib.hid (carry IE_14.out e15)
          have IP_15 := Lib.hid (carry IP_14.out e15)
          have XP_15 := Lib.hid (World.alloc_heap_new v14 (.cells (up.vals h14) 60))
          clear e15
          obtain ⟨cC0, cC1, cC2, cC3, cC4⟩ := five_cells (show v14.heap[v7.heap.size]? = some (.cells #[.int .u8 a.k, .int .i64 a.n, .string a.s, .slice h7.lo a.ls.length h7.lc, .slice h7.to a.ts.length h7.tc] 60) from XC_14.out)
          have lC : v7.heap.size < v14.heap.size := (Array.getElem?_eq_some_iff.1 XC_14.out).1
          obtain ⟨cE0, cE1, cE2, cE3, cE4⟩ := five_cells (show v14.heap[v12.heap.size]? = some (.cells #[.int .u8 a.k, .int .i64 a.n, .string a.s, .slice h12.lo a.ls.length h12.lc, .slice h12.to a.ts.length h12.tc] 60) from XE_14.out)
          have lE : v12.heap.size < v14.heap.size := (Array.getElem?_eq_some_iff.1 XE_14.out).1
          clear HB_14 XT_14 XU_14 XA_14 XC_14 XE_14 IA_14 IC_14 IE_14 IP_14
          go_wp2_with fail
          refine (HSA.out _ h7 h12 IC_15.out IE_15.out).mono ?_
          rintro e v16 ⟨rfl, b16⟩
          clear cC0 cC1 cC2 cC3 cC4 cE0 cE1 cE2 cE3 cE4 lC lE
          have HB_16 := Lib.hid (Trm.go HB_15.out b16)
          have XT_16 := Lib.hid (Lvl.keep b16 XT_15.out)
          have XU_16 := Lib.hid (Lvl.keep b16 XU_15.out)
          have XA_16 := Lib.hid (Lvl.keep b16 XA_15.out)
          have XC_16 := Lib.hid (Lvl.keep b16 XC_15.out)
          have XE_16 := Lib.hid (Lvl.keep b16 XE_15.out)
          have XP_16 := Lib.hid (Lvl.keep b16 XP_15.out)
          have IA_16 := Lib.hid (carry IA_15.out b16)
          have IC_16 := Lib.hid (carry IC_15.out b16)
          have IE_16 := Lib.hid (carry IE_15.out b16)
          have IP_16 := Lib.hid (carry IP_15.out b16)
          clear b16
          clear HB_15 XT_15 XU_15 XA_15 XC_15 XE_15 XP_15 IA_15 IC_15 IE_15 IP_15
          obtain ⟨cP0, cP1, cP2, cP3, cP4⟩ := five_cells (show v16.heap[v14.heap.size]? = some (.cells #[.int .u8 up.k, .int .i64 up.n, .string up.s, .slice h14.lo up.ls.length h14.lc, .slice h14.to up.ts.length h14.tc] 60) from XP_16.out)
          have lP : v14.heap.size < v16.heap.size := (Array.getElem?_eq_some_iff.1 XP_16.out).1
          go_wp2_with fail
          refine (HLP.out _ HB_16.out h14 IP_16.out).mono ?_
          rintro e v17 ⟨h17, rfl, i17, b17⟩
          clear cP0 cP1 cP2 cP3 cP4 lP
          have HB_17 := Lib.hid (Trm.go HB_16.out b17)
          have XT_17 := Lib.hid (Lvl.keep b17 XT_16.out)
          have XU_17 := Lib.hid (Lvl.keep b17 XU_16.out)
          have XA_17 := Lib.hid (Lvl.keep b17 XA_16.out)
          have XP_17 := Lib.hid (Lvl.keep b17 XP_16.out)
          have IA_17 := Lib.hid (carry IA_16.out b17)
          have IP_17 := Lib.hid (carry IP_16.out b17)
          have IG_17 := Lib.hid i17
          clear b17 i17
          clear HB_16 XT_16 XU_16 XA_16 XP_16 IA_16 IP_16
          dsimp only [Tm.val, Tm.vals]
          have e18 := below_one v17 (.cells (d.vals h17) 60)
          have HB_18 := Lib.hid (Trm.go HB_17.out e18)
          have XT_18 := Lib.hid (Lvl.keep e18 XT_17.out)
          have XU_18 := Lib.hid (Lvl.keep e18 XU_17.out)
          have XA_18 := Lib.hid (Lvl.keep e18 XA_17.out)
          have XP_18 := Lib.hid (Lvl.keep e18 XP_17.out)
          have IA_18 := Lib.hid (carry IA_17.out e18)
          have IP_18 := Lib.hid (carry IP_17.out e18)
          have IG_18 := Lib.hid (carry IG_17.out e18)
          have XG_18 := Lib.hid (World.alloc_heap_new v17 (.cells (d.vals h17) 60))
          clear e18
          obtain ⟨cA0, cA1, cA2, cA3, cA4⟩ := five_cells (show v17.heap[v2.heap.size]? = some (.cells #[.int .u8 x.k, .int .i64 x.n, .string x.s, .slice h2.lo x.ls.length h2.lc, .slice h2.to x.ts.length h2.tc] 60) from XA_17.out)
          have lA : v2.heap.size < v17.heap.size := (Array.getElem?_eq_some_iff.1 XA_17.out).1
          clear HB_17 XT_17 XU_17 XA_17 XP_17 IA_17 IP_17 IG_17
          go_wp2_with fail
          refine (HLX.out _ HB_18.out h2 IA_18.out).mono ?_
          rintro e v19 ⟨h19, rfl, i19, b19⟩
          clear cA0 cA1 cA2 cA3 cA4 lA
          have HB_19 := Lib.hid (Trm.go HB_18.out b19)
          have XT_19 := Lib.hid (Lvl.keep b19 XT_18.out)
          have XU_19 := Lib.hid (Lvl.keep b19 XU_18.out)
          have XA_19 := Lib.hid (Lvl.keep b19 XA_18.out)
          have XG_19 := Lib.hid (Lvl.keep b19 XG_18.out)
          have IA_19 := Lib.hid (carry IA_18.out b19)
          have IG_19 := Lib.hid (carry IG_18.out b19)
          have IH_19 := Lib.hid i19
          clear b19 i19
          clear HB_18 XT_18 XU_18 XA_18 XG_18 IA_18 IG_18
          dsimp only [Tm.val, Tm.vals]
          have e20 := below_one v19 (.cells (d.vals h19) 60)
          have HB_20 := Lib.hid (Trm.go HB_19.out e20)
          have XT_20 := Lib.hid (Lvl.keep e20 XT_19.out)
          have XU_20 := Lib.hid (Lvl.keep e20 XU_19.out)
          have XA_20 := Lib.hid (Lvl.keep e20 XA_19.out)
          have XG_20 := Lib.hid (Lvl.keep e20 XG_19.out)
          have IA_20 := Lib.hid (carry IA_19.out e20)
          have IG_20 := Lib.hid (carry IG_19.out e20)
          have IH_20 := Lib.hid (carry IH_19.out e20)
          have XH_20 := Lib.hid (World.alloc_heap_new v19 (.cells (d.vals h19) 60))
          clear e20
          obtain ⟨cG0, cG1, cG2, cG3, cG4⟩ := five_cells (show v19.heap[v17.heap.size]? = some (.cells #[.int .u8 d.k, .int .i64 d.n, .string d.s, .slice h17.lo d.ls.length h17.lc, .slice h17.to d.ts.length h17.tc] 60) from XG_19.out)
          have lG : v17.heap.size < v19.heap.size := (Array.getElem?_eq_some_iff.1 XG_19.out).1
          clear HB_19 XT_19 XU_19 XA_19 XG_19 IA_19 IG_19 IH_19
          go_wp2_with fail
          refine (HSD.out _ h17 h19 IG_20.out IH_20.out).mono ?_
          rintro e v21 ⟨rfl, b21⟩
          clear cG0 cG1 cG2 cG3 cG4 lG
          have HB_21 := Lib.hid (Trm.go HB_20.out b21)
          have XT_21 := Lib.hid (Lvl.keep b21 XT_20.out)
          have XU_21 := Lib.hid (Lvl.keep b21 XU_20.out)
          have XA_21 := Lib.hid (Lvl.keep b21 XA_20.out)
          have XG_21 := Lib.hid (Lvl.keep b21 XG_20.out)
          have XH_21 := Lib.hid (Lvl.keep b21 XH_20.out)
          have IA_21 := Lib.hid (carry IA_20.out b21)
          have IG_21 := Lib.hid (carry IG_20.out b21)
          have IH_21 := Lib.hid (carry IH_20.out b21)
          clear b21
          clear HB_20 XT_20 XU_20 XA_20 XG_20 XH_20 IA_20 IG_20 IH_20
          go_wp2_with fail
          refine (sub_works_any _).mono ?_
          rintro e v22 ⟨rfl, b22⟩
          have HB_22 := Lib.hid (Trm.go HB_21.out b22)
          have XT_22 := Lib.hid (Lvl.keep b22 XT_21.out)
          have XU_22 := Lib.hid (Lvl.keep b22 XU_21.out)
          have XA_22 := Lib.hid (Lvl.keep b22 XA_21.out)
          have XG_22 := Lib.hid (Lvl.keep b22 XG_21.out)
          have XH_22 := Lib.hid (Lvl.keep b22 XH_21.out)
          have IA_22 := Lib.hid (carry IA_21.out b22)
          have IG_22 := Lib.hid (carry IG_21.out b22)
          have IH_22 := Lib.hid (carry IH_21.out b22)
          clear b22
          clear HB_21 XT_21 XU_21 XA_21 XG_21 XH_21 IA_21 IG_21 IH_21
          go_wp2_with fail
          go_ret
          exact ⟨rfl, HB_22.out⟩
        · have g1 : (e2 != 0) = true := by simpa using hq2
          go_wp2_with fail
          refine (sub_works_any _).mono ?_
          rintro e v6 ⟨rfl, b6⟩
          clear cT0 cT1 cT2 cT3 cT4 cU0 cU1 cU2 cU3 cU4 cA0 cA1 cA2 cA3 cA4 lT lU lA
          have HB_6 := Lib.hid (Trm.go HB_5.out b6)
          have XT_6 := Lib.hid (Lvl.keep b6 XT_5.out)
          have XU_6 := Lib.hid (Lvl.keep b6 XU_5.out)
          have XA_6 := Lib.hid (Lvl.keep b6 XA_5.out)
          have XB_6 := Lib.hid (Lvl.keep b6 XB_5.out)
          have IA_6 := Lib.hid (carry IA_5.out b6)
          have IB_6 := Lib.hid (carry IB_5.out b6)
          clear b6
          clear HB_5 XT_5 XU_5 XA_5 XB_5 IA_5 IB_5
          go_wp2_with fail
          go_ret
          exact ⟨rfl, HB_6.out⟩
      · have g1 : (e1 != 0) = true := by simpa using hq1
        go_wp2_with fail
        refine (sub_works_any _).mono ?_
        rintro e v6 ⟨rfl, b6⟩
        clear cT0 cT1 cT2 cT3 cT4 cU0 cU1 cU2 cU3 cU4 cA0 cA1 cA2 cA3 cA4 lT lU lA
        have HB_6 := Lib.hid (Trm.go HB_5.out b6)
        have XT_6 := Lib.hid (Lvl.keep b6 XT_5.out)
        have XU_6 := Lib.hid (Lvl.keep b6 XU_5.out)
        have XA_6 := Lib.hid (Lvl.keep b6 XA_5.out)
        have XB_6 := Lib.hid (Lvl.keep b6 XB_5.out)
        have IA_6 := Lib.hid (carry IA_5.out b6)
        have IB_6 := Lib.hid (carry IB_5.out b6)
        clear b6
        clear HB_5 XT_5 XU_5 XA_5 XB_5 IA_5 IB_5
        go_wp2_with fail
        go_ret
        exact ⟨rfl, HB_6.out⟩
    · have d1 : decide ((10 : Int) < (L.length : Int)) = true := by simp; omega
      go_wp2_with fail
      refine (sub_works_any _).mono ?_
      rintro e v2 ⟨rfl, b2⟩
      clear cT0 cT1 cT2 cT3 cT4 cU0 cU1 cU2 cU3 cU4 lT lU
      have HB_2 := Lib.hid (Trm.go HB_1.out b2)
      have XT_2 := Lib.hid (Lvl.keep b2 XT_1.out)
      have XU_2 := Lib.hid (Lvl.keep b2 XU_1.out)
      clear b2
      clear HB_1 XT_1 XU_1
      go_wp2_with fail
      go_ret
      exact ⟨rfl, HB_2.out⟩
end Go.Proofs.Ytfechgahafbphaa
