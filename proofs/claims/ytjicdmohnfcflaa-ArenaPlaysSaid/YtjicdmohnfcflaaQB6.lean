/-
  The mathematics of Inst: terms in the place of the first free variables, and how many nodes come of it.
-/
import Derived.Test.YtjicdmohnfcflaaQB5
import Derived.Deep.RegionHeld3
namespace Go.Proofs.Ytjicdmohnfcflaa
open Lvl Trm

namespace Trm
/-- What comes in the place of a free variable. -/
def gInst (l : List Tm) : Int → Int → Tm := fun v u => if h : 0 ≤ v ∧ v < l.length then (l[l.length - 1 - v.toNat]'(by omega)).put (gLift 0 u) 0 else tV (v - l.length + u)
/-- Inst's function: it counts the nodes. -/
def toInst (l : List Tm) : Int → Int → Int → Int × Int × Option Tm := fun n v u =>
  if h : 0 ≤ v ∧ v < l.length then
    if n + ((l[l.length - 1 - v.toNat]'(by omega)).size - 1) > 65536 then (n + ((l[l.length - 1 - v.toNat]'(by omega)).size - 1), 4, none)
    else (n + ((l[l.length - 1 - v.toNat]'(by omega)).size - 1), 0, some (gInst l v u))
  else (n, 0, some (gInst l v u))
theorem toInst_g (l : List Tm) (st v u : Int) (h : (toInst l st v u).2.1 = 0) : (toInst l st v u).2.2.getD (tV (v + u)) = gInst l v u := by
  unfold toInst at h ⊢
  split
  · rename_i hv
    rw [dif_pos hv] at h
    split
    · rename_i h2
      rw [if_pos h2] at h
      exact absurd h (show ¬ ((4 : Int) = 0) by decide)
    · rfl
  · rfl

/-- How many nodes a list of free variables brings. -/
def more (l : List Tm) : List (Int × Int) → Int
  | [] => 0
  | p :: r => (gInst l p.1 p.2).size - 1 + more l r

mutual
theorem size_lift (fr by_ : Int) : ∀ (t : Tm) (u d : Int), OkMay t d → (t.put (gLift fr by_) u).size = t.size
  | .mk k n s ls ts, u, d, ho => by
    rw [Tm.put]
    by_cases hc : k = 2 ∧ u ≤ n
    · rw [if_pos hc, node_var ho.node.1 hc.1]
      unfold gLift ren tV
      rw [Tm.size, Tm.size]
    · rw [if_neg hc, Tm.size, Tm.size, sizeL_lift fr by_ k ts 0 u (d + 1) (fun x hx => ho.down x hx)]
theorem sizeL_lift (fr by_ : Int) (k : Int) : ∀ (ts : List Tm) (i : Nat) (u d : Int), (∀ x ∈ ts, OkMay x d) → sizeL (putL (gLift fr by_) k ts i u) = sizeL ts
  | [], i, u, d, _ => by rw [putL]
  | t :: r, i, u, d, ho => by rw [putL, sizeL, sizeL, size_lift fr by_ t _ d (ho t (by simp)), sizeL_lift fr by_ k r (i + 1) _ d (fun x hx => ho x (by simp [hx]))]
end
theorem more_append (l : List Tm) : ∀ (a b : List (Int × Int)), more l (a ++ b) = more l a + more l b
  | [], b => by simp [more]
  | p :: a, b => by rw [List.cons_append, more, more, more_append l a b]; omega
mutual
theorem size_inst (l : List Tm) : ∀ (t : Tm) (u d : Int), OkMay t d → (t.put (gInst l) u).size = t.size + more l (t.vps u)
  | .mk k n s ls ts, u, d, ho => by
    rw [Tm.put, Tm.vps]
    by_cases hc : k = 2 ∧ u ≤ n
    · have ht := node_var ho.node.1 hc.1
      unfold tV at ht
      injection ht with _ _ _ _ hts
      subst hts
      rw [if_pos hc, if_pos hc, vpsL, Tm.size, sizeL]
      simp only [List.append_nil, more]
      omega
    · rw [if_neg hc, if_neg hc, Tm.size, Tm.size, List.nil_append, sizeL_inst l k ts 0 u (d + 1) (fun x hx => ho.down x hx)]
      omega
theorem sizeL_inst (l : List Tm) (k : Int) : ∀ (ts : List Tm) (i : Nat) (u d : Int), (∀ x ∈ ts, OkMay x d) → sizeL (putL (gInst l) k ts i u) = sizeL ts + more l (vpsL k ts i u)
  | [], i, u, d, _ => by rw [putL, vpsL]; simp [more]
  | t :: r, i, u, d, ho => by
    rw [putL, vpsL, sizeL, sizeL, more_append, size_inst l t _ d (ho t (by simp)), sizeL_inst l k r (i + 1) _ d (fun x hx => ho x (by simp [hx]))]
    omega
end
theorem gInst_size {l : List Tm} (hl : ∀ x ∈ l, x.may = true) {v u : Int} (h : 0 ≤ v ∧ v < l.length) : (gInst l v u).size = (l[l.length - 1 - v.toNat]'(by omega)).size := by
  unfold gInst
  rw [dif_pos h]
  exact size_lift 0 u _ 0 1 (OkMay.start (hl _ (List.getElem_mem _)))
theorem gInst_else {l : List Tm} {v u : Int} (h : ¬ (0 ≤ v ∧ v < l.length)) : (gInst l v u).size = 1 := by
  unfold gInst
  rw [dif_neg h]
  unfold tV
  rw [Tm.size, sizeL]; rfl
theorem more_ge {l : List Tm} : ∀ (ps : List (Int × Int)), 0 ≤ more l ps
  | [] => by simp [more]
  | p :: r => by
    have := (gInst l p.1 p.2).size_pos
    have := more_ge (l := l) r
    rw [more]; omega
theorem runs_inst {l : List Tm} (hl : ∀ x ∈ l, x.may = true) : ∀ (ps : List (Int × Int)) (n : Int), n ≤ 65536 → ((runs (toInst l) n ps).2 = 0 ∨ (runs (toInst l) n ps).2 = 4) ∧ ((runs (toInst l) n ps).2 ≠ 0 → 65536 < n + more l ps)
  | [], n, _ => ⟨Or.inl rfl, fun h => absurd rfl h⟩
  | p :: r, n, hn => by
    have hm := more_ge (l := l) r
    rw [runs, more]
    by_cases hv : 0 ≤ p.1 ∧ p.1 < l.length
    · have hg := gInst_size hl (u := p.2) hv
      by_cases hb : n + ((l[l.length - 1 - p.1.toNat]'(by omega)).size - 1) > 65536
      · have e : toInst l n p.1 p.2 = (n + ((l[l.length - 1 - p.1.toNat]'(by omega)).size - 1), 4, none) := by unfold toInst; rw [dif_pos hv, if_pos hb]
        rw [e, if_neg (show ¬ ((4 : Int) = 0) by decide)]
        exact ⟨Or.inr rfl, fun _ => by rw [hg]; omega⟩
      · have e : toInst l n p.1 p.2 = (n + ((l[l.length - 1 - p.1.toNat]'(by omega)).size - 1), 0, some (gInst l p.1 p.2)) := by unfold toInst; rw [dif_pos hv, if_neg hb]
        rw [e, if_pos rfl]
        obtain ⟨h1, h2⟩ := runs_inst hl r (n + ((l[l.length - 1 - p.1.toNat]'(by omega)).size - 1)) (by omega)
        exact ⟨h1, fun h => by have := h2 h; rw [hg]; omega⟩
    · have e : toInst l n p.1 p.2 = (n, 0, some (gInst l p.1 p.2)) := by unfold toInst; rw [dif_neg hv]
      rw [e, if_pos rfl, gInst_else hv]
      obtain ⟨h1, h2⟩ := runs_inst hl r n hn
      exact ⟨h1, fun h => by have := h2 h; omega⟩

/-- What Inst answers. -/
def instAns (t : Tm) (l : List Tm) : Tm × Int := if t.may = true ∧ l.all Tm.may = true then (if (t.put (gInst l) 0).may = true then (t.put (gInst l) 0, 0) else (zeroT, 4)) else (zeroT, 1)

theorem may_size' {t : Tm} (h : t.may = true) : t.size ≤ 65536 := by
  have h0 : 0 ≤ t.left badMay 65536 4096 := of_decide_eq_true h
  have := t.left_size badMay 65536 4096 h0
  omega
/-- What Inst's going through a term that may be tells. -/
theorem thr_inst {t : Tm} (h : t.may = true) {l : List Tm} (hl : ∀ x ∈ l, x.may = true) :
    ((t.thr (lfFree (toInst l)) t.size 0).2.1 = 0 ∧ (t.thr (lfFree (toInst l)) t.size 0).2.2.getD t = t.put (gInst l) 0) ∨ ((t.thr (lfFree (toInst l)) t.size 0).2.1 = 4 ∧ (t.put (gInst l) 0).may = false) := by
  have h1 := thr_runs (toInst l) t t.size 1 0 (OkMay.start h)
  have h2 := congrArg Prod.snd h1
  dsimp only at h2
  obtain ⟨h3, h4⟩ := runs_inst hl (t.vps 0) t.size (may_size' h)
  rw [← h2] at h3 h4
  rcases h3 with h3 | h3
  · exact Or.inl ⟨h3, thr_put (fun st v u hh => toInst_g l st v u hh) t t.size 1 0 (OkMay.start h) h3⟩
  · refine Or.inr ⟨h3, ?_⟩
    have h5 := h4 (by omega)
    have h6 := size_inst l t 0 1 (OkMay.start h)
    cases hm : (t.put (gInst l) 0).may
    · rfl
    · have := may_size' hm
      omega
end Trm
end Go.Proofs.Ytjicdmohnfcflaa


namespace Go.Proofs.Ytjicdmohnfcflaa
open Go.RowKit Go.Shelf Lvl Trm

namespace Trm
/-- Is a variable bound in a term of that place? -/
def bnd (K i : Int) : Int := if ((K = 5 ∨ K = 6) ∧ i = 1) ∨ (K = 7 ∧ i = 2) then 1 else 0
theorem bnd_under {K : Int} {i : Nat} (u : Int) : u + bnd K i = under K i u := by
  unfold bnd under binds kids
  by_cases h5 : K = 5
  · subst h5; simp; split <;> omega
  · by_cases h6 : K = 6
    · subst h6; simp; split <;> omega
    · by_cases h7 : K = 7
      · subst h7; simp; split <;> omega
      · simp [h5, h6, h7]
theorem top_from (l : List Int) : ∀ n m : Int, l.foldl (fun n v => max n (v + 1)) (max n m) = max n (l.foldl (fun n v => max n (v + 1)) m) := by
  induction l with
  | nil => intro n m; rfl
  | cons a r ih => intro n m; simp only [List.foldl_cons]; rw [← ih]; congr 1; omega
theorem top_append (a b : List Int) : top (a ++ b) = max (top a) (top b) := by
  have h := top_from b (top a) 0
  unfold top at h ⊢
  rw [List.foldl_append, ← h]
  congr 1
  have := top_ge a
  unfold top at this
  omega
theorem top_tV (n u : Int) : top ((tV n).vs u) = max 0 (n + 1 - u) := by
  unfold tV
  rw [Tm.vs, vsL]
  unfold top
  by_cases hun : u ≤ n
  · rw [if_pos ⟨rfl, hun⟩]; simp; omega
  · rw [if_neg (fun hh => hun hh.2)]; simp; omega
def FrRel (w : World) (o : Obj) (k : Int) (ts : List Tm) (u G : Int) (v i : Value) (wr : World) : Prop :=
  ∃ (j : Nat) (L : Int), v = .int .i64 L ∧ i = .int .i64 j ∧ j ≤ ts.length ∧ 0 ≤ L ∧ max L (top (vsL k (ts.drop j) j u)) = G ∧ Kept w wr o
end Trm

set_option maxRecDepth 100000 in
set_option maxHeartbeats 1000000 in
theorem RefBinds_any (K n : Int) (s : ByteArray) (lo to : Option Addr) (ln lc tn tc : Nat) (i : Int) (w : World) :
    Calls Try.prog 46 #[.agg #[.int .u8 K, .int .i64 n, .string s, .slice lo ln lc, .slice to tn tc], .int .i64 i] w fun e w' => e = .returned (.int .i64 (bnd K i)) ∧ Below w.heap.size w w' := by
  by_cases h5 : K = 5
  · subst h5
    by_cases h1 : i = 1
    · subst h1
      rw [show bnd 5 1 = 1 by decide]
      go_enter Try.func46, Try.ntmps46
      go_wp2_with fail
      go_ret
      exact ⟨rfl, below_one _ _⟩
    · rw [show bnd 5 i = 0 by unfold bnd; rw [if_neg (by omega)]]
      have d1 : (i == 1) = false := by simpa using h1
      go_enter Try.func46, Try.ntmps46
      go_wp2_with fail
      go_ret
      exact ⟨rfl, below_one _ _⟩
  · by_cases h6 : K = 6
    · subst h6
      by_cases h1 : i = 1
      · subst h1
        rw [show bnd 6 1 = 1 by decide]
        go_enter Try.func46, Try.ntmps46
        go_wp2_with fail
        go_ret
        exact ⟨rfl, below_one _ _⟩
      · rw [show bnd 6 i = 0 by unfold bnd; rw [if_neg (by omega)]]
        have d1 : (i == 1) = false := by simpa using h1
        go_enter Try.func46, Try.ntmps46
        go_wp2_with fail
        go_ret
        exact ⟨rfl, below_one _ _⟩
    · by_cases h7 : K = 7
      · subst h7
        by_cases h2 : i = 2
        · subst h2
          rw [show bnd 7 2 = 1 by decide]
          go_enter Try.func46, Try.ntmps46
          go_wp2_with fail
          go_ret
          exact ⟨rfl, below_one _ _⟩
        · rw [show bnd 7 i = 0 by unfold bnd; rw [if_neg (by omega)]]
          have d2 : (i == 2) = false := by simpa using h2
          go_enter Try.func46, Try.ntmps46
          go_wp2_with fail
          go_ret
          exact ⟨rfl, below_one _ _⟩
      · rw [show bnd K i = 0 by unfold bnd; rw [if_neg (by omega)]]
        have d5 : (K == 5) = false := by simpa using h5
        have d6 : (K == 6) = false := by simpa using h6
        have d7 : (K == 7) = false := by simpa using h7
        go_enter Try.func46, Try.ntmps46
        go_wp2_with fail
        go_ret
        exact ⟨rfl, below_one _ _⟩

set_option maxRecDepth 100000 in
set_option maxHeartbeats 2000000 in
theorem free_t_any (t : Tm) : ∀ (h : Hd) (d u : Int) (w : World), OkMay t d → 0 ≤ u → u ≤ d → t.In w.heap.size w h →
    Calls Try.prog 38 #[t.val h, .int .i64 u] w fun e w' => e = .returned (.int .i64 (top (t.vs u))) ∧ Below w.heap.size w w' := by
  induction t using Tm.ind with
  | h t ih =>
    intro h d u w hok hu0 hud hin
    have hfit := hin.fit
    have hts := hfit.ts
    have hd1 := hok.node.2
    have hnum := node_num hok.node.1
    have hfew := (node_few hok.node.1).1
    have hf3 := (node_few hok.node.1).2.1
    clear hfit
    have HIN := Lib.hid hin
    have HIH := Lib.hid ih
    have HOK := Lib.hid hok
    have hmax := run_max
    by_cases h2 : t.k = 2
    · have hv := node_var hok.node.1 h2
      have hG : Trm.top (t.vs u) = max 0 (t.n + 1 - u) := by
        have := top_tV t.n u
        rw [← hv] at this
        exact this
      rw [hG]
      unfold Tm.val Tm.vals
      rw [h2]
      have hw1 : IntKind.i64.wrap (t.n + 1) = t.n + 1 := IntWalk.i64_in _ (by omega)
      have hw2 : IntKind.i64.wrap (t.n + 1 - u) = t.n + 1 - u := IntWalk.i64_in _ (by omega)
      clear hin ih hG hv h2
      go_enter Try.func38, Try.ntmps38
      go_wp2_with fail
      go_ret
      exact ⟨rfl, below_one _ _⟩
    · have hk2 : (t.k == 2) = false := by simpa using h2
      obtain ⟨G, hG⟩ : ∃ G, G = top (t.vs u) := ⟨_, rfl⟩
      rw [← hG]
      have HG : Hid (max 0 (top (vsL t.k (t.ts.drop 0) 0 u)) = G) := by
        rw [hG]
        show max 0 (top (vsL t.k t.ts 0 u)) = top (t.vs u)
        have e : t.vs u = vsL t.k t.ts 0 u := by
          cases t with
          | mk k n s ls ts => rw [Tm.vs, if_neg (fun hh => h2 hh.1)]; rfl
        rw [e]
        have := top_ge (vsL t.k t.ts 0 u)
        omega
      clear hG hin ih hok
      unfold Tm.val Tm.vals
      go_enter Try.func38, Try.ntmps38
      go_wp2_with fail
      go_loopw [5, 6] (fun v i wr => FrRel w (t.box h) t.k t.ts u G v i wr) (fun _ i _ => t.ts.length - (intOf i).toNat)
      case atStart => exact ⟨0, 0, rfl, rfl, by omega, by omega, HG.out, Kept.start _ _⟩
      case round =>
        obtain ⟨j, L, rfl, rfl, hj, hL0, hGk, hkept⟩ := hrel
        have HK := Lib.hid hkept
        have HGk := Lib.hid hGk
        clear hkept hGk
        obtain ⟨c0, c1, c2, c3, c4⟩ := Tm.cells HK.out.box
        by_cases hlt : j < t.ts.length
        · obtain ⟨b, off, hao, hat⟩ := HIN.out.kid j hlt
          obtain ⟨hb, hd', hcx, hin'⟩ := hat.below HK.out.bel
          rw [hao] at c4
          have hbw := HK.out.bel.size
          have HI := Lib.hid (Tm.In.mono HK.out.bel.size _ _ hin')
          have hun := bnd_under (K := t.k) (i := j) u
          have hul := under_le t.k j u
          have HX := Lib.hid (fun (W : World) (hW : Below wr.heap.size wr W) => HIH.out _ (List.getElem_mem hlt) hd' (d + 1) (under t.k j u) W (HOK.out.down _ (List.getElem_mem hlt)) (by omega) (by omega) (carry HI.out hW))
          have HNX : Hid (max (max L (top (t.ts[j].vs (under t.k j u)))) (top (vsL t.k (t.ts.drop (j + 1)) (j + 1) u)) = G) := Lib.hid (by
            have h0 := HGk.out
            rw [drop_get hlt, vsL, top_append] at h0
            by_cases hl : (j : Int) = kids t.k - 1
            · have hn : t.ts.drop (j + 1) = [] := List.drop_eq_nil_of_le (by omega)
              rw [hn, vsL] at h0 ⊢
              rw [← h0]; omega
            · have hun2 : under t.k j u = u := by unfold under; rw [if_neg (fun hh => hl hh.2)]
              rw [hun2] at h0 ⊢
              rw [← h0]; omega)
          have HB := Lib.hid (fun (W : World) => RefBinds_any t.k t.n t.s h.lo (some ⟨b, off, none⟩) t.ls.length h.lc t.ts.length h.tc j W)
          have hwr : IntKind.i64.wrap (u + bnd t.k j) = under t.k j u := by rw [hun]; exact IntWalk.i64_in _ (by omega)
          have hwr2 : IntKind.i64.wrap (under t.k j u) = under t.k j u := IntWalk.i64_in _ (by omega)
          have HCX := Lib.hid hcx
          obtain ⟨k0, k1, k2, k3, k4⟩ := hcx
          have HAO := Lib.hid hao
          clear hat hin' hao
          generalize hq : top (t.ts[j].vs (under t.k j u)) = X at HX HNX
          generalize t.ts[j] = x at k0 k1 k2 k3 k4 HX HI HCX hq
          have hX0 : 0 ≤ X := by rw [← hq]; exact top_ge _
          unfold Tm.val Tm.vals at HX
          clear hq
          have hbz : b < wr.heap.size := by omega
          go_wp2_with fail
          have hbw0 : Below wr.heap.size wr wr.drew := (Below.refl _ _).drew
          go_region_held3 (fun w' => Below wr.heap.size wr w' ∧ w'.cell? ⟨w.heap.size, 0, none⟩ = some (.int .u8 t.k) ∧ w'.cell? ⟨w.heap.size, 1, none⟩ = some (.int .i64 t.n) ∧ w'.cell? ⟨w.heap.size, 2, none⟩ = some (.string t.s) ∧ w'.cell? ⟨w.heap.size, 3, none⟩ = some (.slice h.lo t.ls.length h.lc) ∧ w'.cell? ⟨w.heap.size, 4, none⟩ = some (.slice (some ⟨b, off, none⟩) t.ts.length h.tc) ∧ w'.cell? ⟨b, off + j * 5, none⟩ = some (.int .u8 x.k) ∧ w'.cell? ⟨b, off + j * 5 + 1, none⟩ = some (.int .i64 x.n) ∧ w'.cell? ⟨b, off + j * 5 + 2, none⟩ = some (.string x.s) ∧ w'.cell? ⟨b, off + j * 5 + 3, none⟩ = some (.slice hd'.lo x.ls.length hd'.lc) ∧ w'.cell? ⟨b, off + j * 5 + 4, none⟩ = some (.slice hd'.to x.ts.length hd'.tc))
            (go_keep)
            (first
              | (go_at_call 46; (with_reducible refine (HB.out _).mono ?_); rintro e w3 ⟨rfl, bw⟩; have hb3 : Below wr.heap.size wr w3 := Trm.go (by first | assumption | exact (Below.refl _ _).drew) bw; obtain ⟨c0, c1, c2, c3, c4⟩ := Tm.cells (HK.out.step hb3).box; rw [HAO.out] at c4; obtain ⟨k0, k1, k2, k3, k4⟩ := HCX.out.below hb3 hbz)
              | (go_at_call 38; (with_reducible refine (HX.out _ ?_).mono ?_); (first | assumption | exact (Below.refl _ _).drew); rintro e w3 ⟨rfl, bw⟩; have hb3 : Below wr.heap.size wr w3 := Trm.go (by first | assumption | exact (Below.refl _ _).drew) bw; obtain ⟨c0, c1, c2, c3, c4⟩ := Tm.cells (HK.out.step hb3).box; rw [HAO.out] at c4; obtain ⟨k0, k1, k2, k3, k4⟩ := HCX.out.below hb3 hbz))
          have HKF := Lib.hid (HK.out.step hb3)
          go_wp2_with fail
          go_roundw
          case rel => exact ⟨j + 1, max L X, rfl, by go_num, by omega, by omega, HNX.out, HKF.out⟩
          case measure => simp [intOf]; omega
        · have HE : Hid (L = G) := by
            have := HGk.out
            rw [List.drop_eq_nil_of_le (by omega), vsL] at this
            show _ = _
            rw [← this]
            have : Trm.top [] = 0 := rfl
            omega
          go_wp2_with fail
          go_ret
          exact ⟨ret_int HE.out, HK.out.bel⟩

set_option maxRecDepth 100000 in
theorem RefFree_any (t : Tm) (h : Hd) (w : World) (hmay : t.may = true) (hin : t.In w.heap.size w h) :
    Calls Try.prog 23 #[t.val h] w fun e w' => e = .returned (.int .i64 t.free) ∧ Below w.heap.size w w' := by
  have hf : t.free = top (t.vs 0) := by unfold Tm.free; rw [if_pos hmay]; rfl
  have HX := Lib.hid (free_t_any t h 1 0 _ (OkMay.start hmay) (by omega) (by omega) (carry hin (below_one w (t.box h))))
  rw [hf]
  generalize top (t.vs 0) = R at HX ⊢
  unfold Tm.val at HX ⊢
  unfold Tm.box at HX
  dsimp only [Tm.vals] at HX ⊢
  clear hin hf
  go_enter Try.func23, Try.ntmps23
  go_wp2_with fail
  refine HX.out.mono ?_
  rintro e w1 ⟨rfl, b1⟩
  have HB := Lib.hid (Trm.go (below_one w _) b1)
  clear b1
  go_wp2_with fail
  go_ret
  exact ⟨rfl, HB.out⟩
end Go.Proofs.Ytjicdmohnfcflaa


namespace Go.Proofs.Ytjicdmohnfcflaa
open Lvl Trm

namespace Trm
/-- n lambdas in one another. -/
def lam : Nat → Tm
  | 0 => tS
  | n + 1 => t2 5 tS (lam n)
/-- A term, applied to itself, so often. -/
def bt : Nat → Tm
  | 0 => tV 0
  | n + 1 => t2 4 (bt n) (bt n)
def ss : ByteArray := ⟨#[115]⟩
def pj (u : Tm) : Nat → Tm
  | 0 => u
  | n + 1 => .mk 8 0 ss [] [pj u n]

theorem node_t2 (k : Int) (hk : k = 4 ∨ k = 5 ∨ k = 6) (f x : Tm) : badMay (t2 k f x) = false := by
  unfold badMay t2 Tm.node
  rcases hk with rfl | rfl | rfl <;> simp [Tm.k, Tm.ts, Tm.ls, Tm.s, Tm.n, kids, no, ByteArray.size]
theorem node_pj (x : Tm) : badMay (.mk 8 0 ss [] [x]) = false := by
  unfold badMay Tm.node
  have h : nameOk ss = true := by decide
  simp [Tm.k, Tm.ts, Tm.ls, Tm.s, Tm.n, kids, h]
theorem left_tS (l d : Int) : tS.left badMay l d = if l - 1 < 0 ∨ d ≤ 0 then -1 else l - 1 := by
  have h : badMay tS = false := by decide
  rw [Tm.left_eq, h]
  simp [tS, Tm.ts, leftL]
theorem left_tV (l d : Int) : (tV 0).left badMay l d = if l - 1 < 0 ∨ d ≤ 0 then -1 else l - 1 := by
  have h : badMay (tV 0) = false := by decide
  rw [Tm.left_eq, h]
  simp [tV, Tm.ts, leftL]
theorem left_t2 (k : Int) (hk : k = 4 ∨ k = 5 ∨ k = 6) (f x : Tm) (l d : Int) : (t2 k f x).left badMay l d =
    if l - 1 < 0 ∨ d ≤ 0 then -1 else if f.left badMay (l - 1) (d - 1) < 0 then -1 else if x.left badMay (f.left badMay (l - 1) (d - 1)) (d - 1) < 0 then -1 else x.left badMay (f.left badMay (l - 1) (d - 1)) (d - 1) := by
  rw [Tm.left_eq, node_t2 k hk]
  simp [t2, Tm.ts, leftL]
theorem left_lam : ∀ (n : Nat) (l d : Int), 2 * n + 1 ≤ l → (lam n).left badMay l d = if (n : Int) + 1 ≤ d then l - (2 * n + 1) else -1
  | 0, l, d, hl => by
    show tS.left badMay l d = _
    rw [left_tS]
    by_cases h : d ≤ 0
    · rw [if_pos (Or.inr h), if_neg (by omega)]
    · rw [if_neg (by omega), if_pos (by omega)]; omega
  | n + 1, l, d, hl => by
    show (t2 5 tS (lam n)).left badMay l d = _
    rw [left_t2 5 (by omega)]
    by_cases h : d ≤ 0
    · rw [if_pos (Or.inr h), if_neg (by omega)]
    · rw [if_neg (by omega)]
      by_cases h2 : d - 1 ≤ 0
      · have e : tS.left badMay (l - 1) (d - 1) = -1 := by rw [left_tS, if_pos (Or.inr h2)]
        rw [e, if_pos (by omega), if_neg (by omega)]
      · have e : tS.left badMay (l - 1) (d - 1) = l - 1 - 1 := by rw [left_tS, if_neg (by omega)]
        have e2 := left_lam n (l - 1 - 1) (d - 1) (by omega)
        rw [e, if_neg (by omega), e2]
        by_cases h3 : (n : Int) + 1 ≤ d - 1
        · rw [if_pos h3, if_neg (by omega), if_pos (by omega)]; omega
        · rw [if_neg h3, if_pos (by omega), if_neg (by omega)]
theorem lam_may (n : Nat) (h : n ≤ 5000) : (lam n).may = decide ((n : Int) + 1 ≤ 4096) := by
  show decide (0 ≤ (lam n).left badMay 65536 4096) = _
  rw [left_lam n _ _ (by omega)]
  by_cases h3 : (n : Int) + 1 ≤ 4096
  · rw [if_pos h3]; simp; omega
  · rw [if_neg h3]; simp; omega

theorem bt_succ (n : Nat) : (bt (n + 1)).size = 1 + (bt n).size + (bt n).size := by
  show (t2 4 (bt n) (bt n)).size = _
  unfold t2; rw [Tm.size, sizeL, sizeL, sizeL]; omega
theorem bt_14 : (bt 14).size = 32767 := by
  have h0 : (bt 0).size = 1 := by decide
  have h1 := bt_succ 0; have h2 := bt_succ 1; have h3 := bt_succ 2; have h4 := bt_succ 3; have h5 := bt_succ 4; have h6 := bt_succ 5; have h7 := bt_succ 6
  have h8 := bt_succ 7; have h9 := bt_succ 8; have h10 := bt_succ 9; have h11 := bt_succ 10; have h12 := bt_succ 11; have h13 := bt_succ 12; have h14 := bt_succ 13
  simp only [Nat.zero_add, Nat.reduceAdd] at *
  omega
theorem bt_15 : (bt 15).size = 65535 := by
  have h : (bt 15).size = 1 + (bt 14).size + (bt 14).size := bt_succ 14
  have h2 := bt_14
  omega
theorem left_bt : ∀ (n : Nat) (l d : Int), (n : Int) + 1 ≤ d → (bt n).left badMay l d = if (bt n).size ≤ l then l - (bt n).size else -1
  | 0, l, d, hd => by
    show (tV 0).left badMay l d = _
    have hs : (bt 0).size = 1 := by decide
    rw [left_tV, hs]
    by_cases h : l - 1 < 0
    · rw [if_pos (Or.inl h), if_neg (by omega)]
    · rw [if_neg (by omega), if_pos (by omega)]
  | n + 1, l, d, hd => by
    have hs : (bt (n + 1)).size = 1 + (bt n).size + (bt n).size := by
      show (t2 4 (bt n) (bt n)).size = _
      unfold t2; rw [Tm.size, sizeL, sizeL, sizeL]; omega
    have hp := (bt n).size_pos
    show (t2 4 (bt n) (bt n)).left badMay l d = _
    rw [left_t2 4 (by omega), hs]
    by_cases h : l - 1 < 0
    · rw [if_pos (Or.inl h), if_neg (by omega)]
    · rw [if_neg (by omega), left_bt n _ _ (by omega)]
      by_cases h1 : (bt n).size ≤ l - 1
      · rw [if_pos h1, if_neg (by omega), left_bt n _ _ (by omega)]
        by_cases h2 : (bt n).size ≤ l - 1 - (bt n).size
        · rw [if_pos h2, if_neg (by omega), if_pos (by omega)]; omega
        · rw [if_neg h2, if_pos (by omega), if_neg (by omega)]
      · rw [if_neg h1, if_pos (by omega), if_neg (by omega)]
theorem left_pj (u : Tm) : ∀ (n : Nat) (l d : Int), (n : Int) < d → (n : Int) ≤ l → (pj u n).left badMay l d = u.left badMay (l - n) (d - n)
  | 0, l, d, hd, hl => by
    show u.left badMay l d = _
    rw [show l - ((0 : Nat) : Int) = l by omega, show d - ((0 : Nat) : Int) = d by omega]
  | n + 1, l, d, hd, hl => by
    show (Tm.mk 8 0 ss [] [pj u n]).left badMay l d = _
    rw [Tm.left_eq, node_pj]
    rw [if_neg (by rintro (h | h | h) <;> first | omega | cases h)]
    show leftL badMay [pj u n] (l - 1) (d - 1) = _
    have e := left_pj u n (l - 1) (d - 1) (by omega) (by omega)
    rw [leftL, leftL, e, show l - 1 - (n : Int) = l - ((n + 1 : Nat) : Int) by omega, show d - 1 - (n : Int) = d - ((n + 1 : Nat) : Int) by omega]
    have hg := u.left_ge badMay (l - ((n + 1 : Nat) : Int)) (d - ((n + 1 : Nat) : Int))
    split
    · omega
    · rfl
theorem pj_may (n : Nat) (h : n ≤ 10) : (pj (bt 15) n).may = decide (65535 + (n : Int) ≤ 65536) := by
  show decide (0 ≤ (pj (bt 15) n).left badMay 65536 4096) = _
  rw [left_pj _ n _ _ (by omega) (by omega), left_bt 15 _ _ (by omega), bt_15]
  by_cases h3 : 65535 + (n : Int) ≤ 65536
  · rw [if_pos (by omega)]; simp; omega
  · rw [if_neg (by omega)]; simp; omega
end Trm
end Go.Proofs.Ytjicdmohnfcflaa


namespace Go.Proofs.Ytjicdmohnfcflaa
open Lvl Trm

namespace Trm
theorem vps_free {t : Tm} (h : t.may = true) : ∀ p ∈ t.vps 0, 0 ≤ p.1 ∧ 0 ≤ p.2 ∧ p.2 ≤ 4096 ∧ p.1 < t.free ∧ p.1 + p.2 ≤ 1048576 := fun p hp => by
  have h1 := vps_bound t 0 1 (by omega) (by omega) (OkMay.start h) p hp
  have hf : t.free = top (t.vs 0) := by unfold Tm.free; rw [if_pos h]; rfl
  have h2 : p.1 ∈ t.vs 0 := by rw [← vps_vs]; exact List.mem_map_of_mem hp
  have h3 := top_lt _ _ h2
  omega
theorem gLift_at (x : Int) {v : Int} (h : 0 ≤ v) (u : Int) : gLift 0 x v u = tV (v + x + u) := by
  unfold gLift ren
  dsimp only
  rw [if_neg (by omega)]
theorem lift_ok {t : Tm} (h : t.may = true) {x : Int} (h0 : 0 ≤ x) (h1 : x ≤ 2097152) (hb : ∀ p ∈ t.vps 0, p.1 + x + p.2 ≤ 1048576) : liftAns t 0 x = (t.put (gLift 0 x) 0, 0) ∧ (t.put (gLift 0 x) 0).may = true := by
  have hp := vps_free h
  have hm : (t.put (gLift 0 x) 0).may = true := may_ren h (fun p hpp => by
    have := hp p hpp
    have := hb p hpp
    rw [if_neg (by omega)]
    omega)
  refine ⟨?_, hm⟩
  unfold liftAns
  have hmn : min x 2097152 = x := by omega
  have hs : t.sinks 0 x = false := by
    unfold Tm.sinks
    rw [List.any_eq_false]
    intro p hpp
    simp
    omega
  rw [hmn, if_neg (by rw [h]; simp), hs, if_neg (by simp), if_pos hm]
theorem put_same {g : Int → Int → Tm} {t : Tm} (h : t.may = true) (hg : ∀ p ∈ t.vps 0, g p.1 p.2 = tV (p.1 + p.2)) : t.put g 0 = t := by
  rw [put_congr (g' := fun v u => tV (v + u)) t 0 hg]
  exact put_id t 0 1 (OkMay.start h)
theorem gInst_one {x : Tm} {v u : Int} (h : 1 ≤ v) : gInst [x] v u = tV (v - 1 + u) := by
  unfold gInst
  rw [dif_neg (by simp; omega)]
  simp
theorem gInst_var {n u : Int} (h : 0 ≤ n) : gInst [tV n] 0 u = tV (n + u) := by
  unfold gInst
  rw [dif_pos (by simp)]
  show (tV n).put (gLift 0 u) 0 = _
  have e : (tV n).put (gLift 0 u) 0 = gLift 0 u (n - 0) 0 := by
    unfold tV
    rw [Tm.put, if_pos ⟨rfl, h⟩]
  rw [e, Int.sub_zero, gLift_at u h, Int.add_zero]
end Trm

namespace Trm
mutual
/-- Terms in the place of variables, and again: at once. -/
theorem put_put (g g' : Int → Int → Tm) : ∀ (t : Tm) (u : Int), (t.put g u).put g' u = t.put (fun v u => (g v u).put g' u) u
  | .mk k n s ls ts, u => by
    rw [Tm.put, Tm.put]
    by_cases hc : k = 2 ∧ u ≤ n
    · rw [if_pos hc, if_pos hc]
    · rw [if_neg hc, if_neg hc, Tm.put, if_neg hc, putL_put g g' k ts 0 u]
theorem putL_put (g g' : Int → Int → Tm) (k : Int) : ∀ (ts : List Tm) (i : Nat) (u : Int), putL g' k (putL g k ts i u) i u = putL (fun v u => (g v u).put g' u) k ts i u
  | [], i, u => by rw [putL, putL, putL]
  | t :: r, i, u => by rw [putL, putL, putL, put_put g g' t, putL_put g g' k r]
end
theorem under_add (k : Int) (i : Nat) (d u : Int) : under k i (d + u) = under k i d + u := by unfold under; split <;> omega
mutual
/-- What was lifted by u, with terms in the place of variables behind u more binders: the terms first, lifted. -/
theorem lift_put {g : Int → Int → Tm} {u : Int} (hu : 0 ≤ u) (hg : ∀ v d, 0 ≤ v → 0 ≤ d → (g v d).put (gLift 0 u) d = g v (d + u)) : ∀ (t : Tm) (d e : Int), OkMay t e → 0 ≤ d → (t.put (gLift 0 u) d).put g (d + u) = (t.put g d).put (gLift 0 u) d
  | .mk k n s ls ts, d, e, ho, hd => by
    by_cases hc : k = 2
    · have ht := node_var ho.node.1 hc
      rw [ht]
      show ((tV n).put (gLift 0 u) d).put g (d + u) = ((tV n).put g d).put (gLift 0 u) d
      by_cases hn : d ≤ n
      · have e1 : (tV n).put (gLift 0 u) d = tV (n - d + u + d) := by
          unfold tV
          rw [Tm.put, if_pos ⟨rfl, hn⟩, gLift_at u (by omega)]; rfl
        have e2 : (tV n).put g d = g (n - d) d := by unfold tV; rw [Tm.put, if_pos ⟨rfl, hn⟩]
        have e3 : (tV (n - d + u + d)).put g (d + u) = g (n - d + u + d - (d + u)) (d + u) := by unfold tV; rw [Tm.put, if_pos ⟨rfl, by omega⟩]
        rw [e1, e2, e3, hg _ _ (by omega) hd]
        congr 1
        omega
      · have e1 : ∀ f : Int → Int → Tm, (tV n).put f d = tV n := fun f => by
          unfold tV
          rw [Tm.put, if_neg (fun h => hn h.2), putL]
        have e2 : (tV n).put g (d + u) = tV n := by
          unfold tV
          rw [Tm.put, if_neg (fun h => by omega), putL]
        rw [e1, e2, e1, e1]
    · rw [Tm.put, if_neg (fun h => hc h.1), Tm.put, if_neg (fun h => hc h.1), Tm.put, if_neg (fun h => hc h.1), Tm.put, if_neg (fun h => hc h.1), liftL_put hu hg k ts 0 d (e + 1) (fun x hx => ho.down x hx) hd]
theorem liftL_put {g : Int → Int → Tm} {u : Int} (hu : 0 ≤ u) (hg : ∀ v d, 0 ≤ v → 0 ≤ d → (g v d).put (gLift 0 u) d = g v (d + u)) (k : Int) : ∀ (ts : List Tm) (i : Nat) (d e : Int), (∀ x ∈ ts, OkMay x e) → 0 ≤ d → putL g k (putL (gLift 0 u) k ts i d) i (d + u) = putL (gLift 0 u) k (putL g k ts i d) i d
  | [], i, d, e, _, _ => by rw [putL, putL, putL, putL]
  | t :: r, i, d, e, ho, hd => by
    have hl := under_le k i d
    rw [putL, putL, putL, putL, under_add, lift_put hu hg t (under k i d) e (ho t (by simp)) (by omega), liftL_put hu hg k r (i + 1) (under k i d) e (fun x hx => ho x (by simp [hx])) (by omega)]
end
/-- Lifted by one number and by another one: by both. -/
theorem lift_lift {t : Tm} {e a b : Int} (ho : OkMay t e) (ha : 0 ≤ a) (d : Int) (hd : 0 ≤ d) (hde : d ≤ e) : (t.put (gLift 0 a) d).put (gLift 0 b) d = t.put (gLift 0 (a + b)) d := by
  rw [put_put]
  refine put_congr t d (fun p hp => ?_)
  have h0 := vps_bound t d e hd hde ho p hp
  rw [gLift_at a h0.1, gLift_at (a + b) h0.1]
  unfold tV
  rw [Tm.put, if_pos ⟨rfl, by omega⟩, gLift_at b (by omega)]
  unfold tV
  congr 1
  omega
end Trm

namespace Trm
theorem tV_put (n d : Int) (g : Int → Int → Tm) (h : d ≤ n) : (tV n).put g d = g (n - d) d := by
  unfold tV
  rw [Tm.put, if_pos ⟨rfl, h⟩]
/-- Lifted behind d more binders, what was lifted by d: lifted by both. -/
theorem lift_shift {t : Tm} {e d u : Int} (ho : OkMay t e) (hd : 0 ≤ d) (hu : 0 ≤ u) (he : 0 ≤ e) : (t.put (gLift 0 d) 0).put (gLift 0 u) d = t.put (gLift 0 (d + u)) 0 := by
  have h1 := lift_put (g := gLift 0 u) hd (fun v c hv hc => by
    rw [gLift_at u hv, gLift_at u hv, tV_put _ _ _ (by omega), gLift_at d (by omega)]
    congr 1
    omega) t 0 e ho (by omega)
  rw [Int.zero_add] at h1
  rw [h1, lift_lift ho hu 0 (by omega) he, Int.add_comm]
/-- What Inst puts behind binders, lifted: what it puts behind more. -/
theorem gInst_keep {l : List Tm} (hl : ∀ x ∈ l, x.may = true) {u : Int} (hu : 0 ≤ u) : ∀ v d, 0 ≤ v → 0 ≤ d → (gInst l v d).put (gLift 0 u) d = gInst l v (d + u) := by
  intro v d hv hd
  unfold gInst
  by_cases h : 0 ≤ v ∧ v < l.length
  · rw [dif_pos h, dif_pos h]
    exact lift_shift (OkMay.start (hl _ (List.getElem_mem _))) hd hu (by omega)
  · rw [dif_neg h, dif_neg h, tV_put _ _ _ (by omega), gLift_at u (by omega)]
    congr 1
    omega
/-- A term that was lifted by d, with terms in the place of variables behind d binders. -/
theorem inst_lift {l : List Tm} (hl : ∀ x ∈ l, x.may = true) {x : Tm} (hx : x.may = true) {d : Int} (hd : 0 ≤ d) : (x.put (gLift 0 d) 0).put (gInst l) d = (x.put (gInst l) 0).put (gLift 0 d) 0 := by
  have h1 := lift_put (g := gInst l) hd (gInst_keep hl hd) x 0 1 (OkMay.start hx) (by omega)
  rwa [Int.zero_add] at h1
theorem gInst_last {x : Tm} (l : List Tm) (u : Int) : gInst (l ++ [x]) 0 u = x.put (gLift 0 u) 0 := by
  unfold gInst
  rw [dif_pos (by simp)]
  simp
theorem gInst_back {x : Tm} {v u : Int} (h : 2 ≤ v) (y : Tm) : gInst [x, y] v u = tV (v - 2 + u) := by
  unfold gInst
  rw [dif_neg (by simp; omega)]
  simp
theorem gInst_first {x y : Tm} (u : Int) : gInst [x, y] 1 u = x.put (gLift 0 u) 0 := by
  unfold gInst
  rw [dif_pos (by simp)]
  rfl
/-- A term, and then another one in what is left: at once, the first one with the other one in it. -/
theorem inst_inst {t u v : Tm} (ht : t.may = true) (hu : u.may = true) (hv : v.may = true) : (t.put (gInst [u]) 0).put (gInst [v]) 0 = t.put (gInst [v, u.put (gInst [v]) 0]) 0 := by
  rw [put_put]
  refine put_congr t 0 (fun p hp => ?_)
  have hb := vps_free ht p hp
  by_cases h0 : p.1 = 0
  · rw [h0]
    have e1 : gInst [u] 0 p.2 = u.put (gLift 0 p.2) 0 := gInst_last [] p.2
    have e2 : gInst [v, u.put (gInst [v]) 0] 0 p.2 = (u.put (gInst [v]) 0).put (gLift 0 p.2) 0 := gInst_last [v] p.2
    rw [e1, e2]
    exact inst_lift (by simp [hv]) hu hb.2.1
  · rw [gInst_one (by omega), tV_put _ _ _ (by omega)]
    by_cases h1 : p.1 = 1
    · rw [h1, gInst_first]
      rw [show (1 : Int) - 1 + p.2 - p.2 = 0 by omega]
      exact gInst_last [] p.2
    · rw [gInst_one (by omega), gInst_back (by omega)]
      congr 1
      omega
/-- Two terms at once are the one, lifted, and then the other one. -/
theorem inst_two {t u v : Tm} (ht : t.may = true) (hu : u.may = true) (hv : v.may = true) (hup : (v.put (gLift 0 1) 0).may = true) : (t.put (gInst [v.put (gLift 0 1) 0]) 0).put (gInst [u]) 0 = t.put (gInst [u, v]) 0 := by
  rw [inst_inst ht hup hu]
  have hback : (v.put (gLift 0 1) 0).put (gInst [u]) 0 = v := by
    rw [put_put]
    refine put_same hv (fun p h => ?_)
    have hb := vps_free hv p h
    rw [gLift_at 1 hb.1, tV_put _ _ _ (by omega), gInst_one (by omega)]
    congr 1
    omega
  rw [hback]
end Trm

namespace Trm
mutual
/-- How many nodes stand in one another. -/
def Tm.ht : Tm → Int
  | .mk _ _ _ _ ts => 1 + htL ts
def htL : List Tm → Int
  | [] => 0
  | t :: r => max t.ht (htL r)
end
mutual
/-- Each node has the fields of its kind. -/
def Tm.sound : Tm → Prop
  | .mk k n s ls ts => (Tm.mk k n s ls ts).node = true ∧ soundL ts
def soundL : List Tm → Prop
  | [] => True
  | t :: r => t.sound ∧ soundL r
end
mutual
theorem ht_pos : ∀ t : Tm, 1 ≤ t.ht
  | .mk k n s ls ts => by rw [Tm.ht]; have := htL_ge ts; omega
theorem htL_ge : ∀ ts : List Tm, 0 ≤ htL ts
  | [] => by rw [htL]; omega
  | t :: r => by rw [htL]; have := htL_ge r; omega
end
mutual
theorem ht_size : ∀ t : Tm, t.ht ≤ t.size
  | .mk k n s ls ts => by rw [Tm.ht, Tm.size]; have := htL_size ts; omega
theorem htL_size : ∀ ts : List Tm, htL ts ≤ sizeL ts
  | [] => by rw [htL, sizeL]; omega
  | t :: r => by
    rw [htL, sizeL]
    have := ht_size t
    have := htL_size r
    have := t.size_pos
    have := htL_ge r
    omega
end
mutual
theorem left_sound : ∀ (t : Tm) (l d : Int), t.sound → t.size ≤ l → t.ht ≤ d → t.left badMay l d = l - t.size
  | .mk k n s ls ts, l, d, hs, hl, hd => by
    rw [Tm.sound] at hs
    rw [Tm.size] at hl ⊢
    rw [Tm.ht] at hd
    have h1 := htL_ge ts
    have h2 := htL_size ts
    have hb : badMay (.mk k n s ls ts) = false := by unfold badMay; rw [hs.1]; rfl
    have hc : ¬ (l - 1 < 0 ∨ d ≤ 0 ∨ badMay (.mk k n s ls ts) = true) := by
      rw [hb]
      rintro (h | h | h)
      · omega
      · omega
      · cases h
    rw [Tm.left, if_neg hc, leftL_sound ts (l - 1) (d - 1) hs.2 (by omega) (by omega)]
    omega
theorem leftL_sound : ∀ (ts : List Tm) (l d : Int), soundL ts → sizeL ts ≤ l → htL ts ≤ d → leftL badMay ts l d = l - sizeL ts
  | [], l, d, _, _, _ => by rw [leftL, sizeL]; omega
  | t :: r, l, d, hs, hl, hd => by
    rw [soundL] at hs
    rw [sizeL] at hl ⊢
    rw [htL] at hd
    have h2 := htL_size r
    have h3 := htL_ge r
    have h1 := left_sound t l d hs.1 (by omega) (by omega)
    rw [leftL, h1, if_neg (by omega), leftL_sound r _ d hs.2 (by omega) (by omega)]
    omega
end
mutual
theorem sound_left : ∀ (t : Tm) (l d : Int), 0 ≤ t.left badMay l d → t.sound ∧ t.ht ≤ d
  | .mk k n s ls ts, l, d, h => by
    rw [Tm.left] at h
    split at h
    · omega
    · rename_i hc
      have hn : (Tm.mk k n s ls ts).node = true := by
        cases hb : (Tm.mk k n s ls ts).node
        · exact absurd (Or.inr (Or.inr (by unfold badMay; rw [hb]; rfl))) hc
        · rfl
      have h1 := soundL_left ts (l - 1) (d - 1) h (by omega)
      rw [Tm.sound, Tm.ht]
      exact ⟨⟨hn, h1.1⟩, by have := h1.2; omega⟩
theorem soundL_left : ∀ (ts : List Tm) (l d : Int), 0 ≤ leftL badMay ts l d → 0 ≤ d → soundL ts ∧ htL ts ≤ d
  | [], l, d, _, hd => by rw [soundL, htL]; exact ⟨trivial, hd⟩
  | t :: r, l, d, h, hd => by
    rw [leftL] at h
    split at h
    · omega
    · have h1 := sound_left t l d (by omega)
      have h2 := soundL_left r _ d h hd
      rw [soundL, htL]
      exact ⟨⟨h1.1, h2.1⟩, by have := h1.2; have := h2.2; omega⟩
end
theorem may_of {t : Tm} (hs : t.sound) (hz : t.size ≤ 65536) (hh : t.ht ≤ 4096) : t.may = true := by
  have := left_sound t 65536 4096 hs hz hh
  show decide (0 ≤ t.left badMay 65536 4096) = true
  rw [this]
  simp
  omega
theorem may_sound {t : Tm} (h : t.may = true) : t.sound ∧ t.ht ≤ 4096 := sound_left t 65536 4096 (of_decide_eq_true h)

mutual
theorem sound_put {g : Int → Int → Tm} : ∀ (t : Tm) (u : Int), t.sound → (∀ p ∈ t.vps u, (g p.1 p.2).sound) → (t.put g u).sound
  | .mk k n s ls ts, u, hs, h => by
    rw [Tm.sound] at hs
    rw [Tm.vps] at h
    rw [Tm.put]
    by_cases hc : k = 2 ∧ u ≤ n
    · rw [if_pos hc]
      exact h (n - u, u) (by rw [if_pos hc]; simp)
    · rw [if_neg hc, Tm.sound]
      exact ⟨by rw [node_list (putL_length g k ts 0 u)]; exact hs.1, soundL_put k ts 0 u hs.2 (fun p hp => h p (List.mem_append_right _ hp))⟩
theorem soundL_put {g : Int → Int → Tm} (k : Int) : ∀ (ts : List Tm) (i : Nat) (u : Int), soundL ts → (∀ p ∈ vpsL k ts i u, (g p.1 p.2).sound) → soundL (putL g k ts i u)
  | [], i, u, _, _ => by rw [putL, soundL]; trivial
  | t :: r, i, u, hs, h => by
    rw [soundL] at hs
    rw [vpsL] at h
    rw [putL, soundL]
    exact ⟨sound_put t _ hs.1 (fun p hp => h p (List.mem_append_left _ hp)), soundL_put k r _ _ hs.2 (fun p hp => h p (List.mem_append_right _ hp))⟩
end
mutual
theorem ht_put {g : Int → Int → Tm} {E : Int} (hE : 1 ≤ E) : ∀ (t : Tm) (u : Int), (∀ p ∈ t.vps u, (g p.1 p.2).ht ≤ E) → (t.put g u).ht ≤ t.ht - 1 + E
  | .mk k n s ls ts, u, h => by
    rw [Tm.vps] at h
    rw [Tm.put]
    by_cases hc : k = 2 ∧ u ≤ n
    · rw [if_pos hc]
      have h1 := h (n - u, u) (by rw [if_pos hc]; simp)
      have := ht_pos (.mk k n s ls ts)
      dsimp only at h1
      omega
    · rw [if_neg hc, Tm.ht, Tm.ht]
      have := htL_put hE k ts 0 u (fun p hp => h p (List.mem_append_right _ hp))
      omega
theorem htL_put {g : Int → Int → Tm} {E : Int} (hE : 1 ≤ E) (k : Int) : ∀ (ts : List Tm) (i : Nat) (u : Int), (∀ p ∈ vpsL k ts i u, (g p.1 p.2).ht ≤ E) → htL (putL g k ts i u) ≤ htL ts - 1 + E
  | [], i, u, _ => by rw [putL, htL]; omega
  | t :: r, i, u, h => by
    rw [vpsL] at h
    rw [putL, htL, htL]
    have h1 := ht_put hE t _ (fun p hp => h p (List.mem_append_left _ hp))
    have h2 := htL_put hE k r _ _ (fun p hp => h p (List.mem_append_right _ hp))
    omega
end
mutual
theorem size_put {g : Int → Int → Tm} {S : Int} (hS : 1 ≤ S) : ∀ (t : Tm) (u : Int), (∀ p ∈ t.vps u, (g p.1 p.2).size ≤ S) → (t.put g u).size ≤ t.size * S
  | .mk k n s ls ts, u, h => by
    rw [Tm.vps] at h
    rw [Tm.put]
    by_cases hc : k = 2 ∧ u ≤ n
    · rw [if_pos hc]
      have h1 := h (n - u, u) (by rw [if_pos hc]; simp)
      have h2 := (Tm.mk k n s ls ts).size_pos
      have h3 := Int.mul_le_mul_of_nonneg_right (show (1 : Int) ≤ (Tm.mk k n s ls ts).size by omega) (show 0 ≤ S by omega)
      dsimp only at h1
      omega
    · rw [if_neg hc, Tm.size, Tm.size, Int.add_mul]
      have := sizeL_put hS k ts 0 u (fun p hp => h p (List.mem_append_right _ hp))
      omega
theorem sizeL_put {g : Int → Int → Tm} {S : Int} (hS : 1 ≤ S) (k : Int) : ∀ (ts : List Tm) (i : Nat) (u : Int), (∀ p ∈ vpsL k ts i u, (g p.1 p.2).size ≤ S) → sizeL (putL g k ts i u) ≤ sizeL ts * S
  | [], i, u, _ => by rw [putL, sizeL]; omega
  | t :: r, i, u, h => by
    rw [vpsL] at h
    rw [putL, sizeL, sizeL, Int.add_mul]
    have h1 := size_put hS t _ (fun p hp => h p (List.mem_append_left _ hp))
    have h2 := sizeL_put hS k r _ _ (fun p hp => h p (List.mem_append_right _ hp))
    omega
end
mutual
theorem vs_down {d : Int} (hd : 0 ≤ d) : ∀ (t : Tm) (u w : Int), w ∈ t.vs (u + d) → w + d ∈ t.vs u
  | .mk k n s ls ts, u, w, h => by
    rw [Tm.vs] at h ⊢
    rcases List.mem_append.1 h with h | h
    · refine List.mem_append_left _ ?_
      split at h
      · rename_i hc
        simp at h
        rw [if_pos ⟨hc.1, by omega⟩, h]
        simp
        omega
      · cases h
    · exact List.mem_append_right _ (vsL_down hd k ts 0 u w h)
theorem vsL_down {d : Int} (hd : 0 ≤ d) (k : Int) : ∀ (ts : List Tm) (i : Nat) (u w : Int), w ∈ vsL k ts i (u + d) → w + d ∈ vsL k ts i u
  | [], i, u, w, h => by rw [vsL] at h; cases h
  | t :: r, i, u, w, h => by
    have hu : under k i (u + d) = under k i u + d := by unfold under; split <;> omega
    rw [vsL, hu] at h
    rw [vsL]
    rcases List.mem_append.1 h with h | h
    · exact List.mem_append_left _ (vs_down hd t _ w h)
    · exact List.mem_append_right _ (vsL_down hd k r _ _ w h)
end
mutual
theorem put_vs {g : Int → Int → Tm} : ∀ (t : Tm) (u w : Int), w ∈ (t.put g u).vs u → ∃ p ∈ t.vps u, w ∈ (g p.1 p.2).vs p.2
  | .mk k n s ls ts, u, w, h => by
    rw [Tm.put] at h
    rw [Tm.vps]
    by_cases hc : k = 2 ∧ u ≤ n
    · rw [if_pos hc] at h
      exact ⟨(n - u, u), List.mem_append_left _ (by rw [if_pos hc]; simp), h⟩
    · rw [if_neg hc, Tm.vs, if_neg hc, List.nil_append] at h
      obtain ⟨p, hp, hw⟩ := putL_vs k ts 0 u w h
      exact ⟨p, List.mem_append_right _ hp, hw⟩
theorem putL_vs {g : Int → Int → Tm} (k : Int) : ∀ (ts : List Tm) (i : Nat) (u w : Int), w ∈ vsL k (putL g k ts i u) i u → ∃ p ∈ vpsL k ts i u, w ∈ (g p.1 p.2).vs p.2
  | [], i, u, w, h => by rw [putL, vsL] at h; cases h
  | t :: r, i, u, w, h => by
    rw [putL, vsL] at h
    rw [vpsL]
    rcases List.mem_append.1 h with h | h
    · obtain ⟨p, hp, hw⟩ := put_vs t _ w h
      exact ⟨p, List.mem_append_left _ hp, hw⟩
    · obtain ⟨p, hp, hw⟩ := putL_vs k r _ _ w h
      exact ⟨p, List.mem_append_right _ hp, hw⟩
end
theorem tV_vs (n d : Int) (h : d ≤ n) : (tV n).vs d = [n - d] := by
  unfold tV
  rw [Tm.vs, if_pos ⟨rfl, h⟩, vsL]
  rfl
theorem tV_ht (n : Int) : (tV n).ht = 1 := by
  unfold tV
  rw [Tm.ht, htL]
  rfl
theorem tV_size (n : Int) : (tV n).size = 1 := by
  unfold tV
  rw [Tm.size, sizeL]
  rfl
theorem tV_sound {n : Int} (h0 : 0 ≤ n) (h1 : n ≤ 1048576) : (tV n).sound := by
  have h := node_tV h0 h1
  unfold tV at h ⊢
  rw [Tm.sound, soundL]
  exact ⟨h, trivial⟩
theorem free_top {t : Tm} (h : t.may = true) : t.free = top (t.vs 0) := by unfold Tm.free; rw [if_pos h]; rfl
theorem vs_free {t : Tm} (h : t.may = true) {w : Int} (hw : w ∈ t.vs 0) : w < t.free := by rw [free_top h]; exact top_lt _ _ hw
/-- No free variable from a number on. -/
theorem free_le {t : Tm} (h : t.may = true) {F : Int} (h0 : 0 ≤ F) (hw : ∀ w ∈ t.vs 0, w < F) : t.free ≤ F := by
  rw [free_top h]
  by_cases hp : 0 < top (t.vs 0)
  · have := hw _ (top_mem _ hp)
    omega
  · omega
theorem vps_vs_mem {t : Tm} {u : Int} {p : Int × Int} (h : p ∈ t.vps u) : p.1 ∈ t.vs u := by
  rw [← vps_vs]
  exact List.mem_map_of_mem h
theorem gInst_at {l : List Tm} {v u : Int} (h : 0 ≤ v ∧ v < l.length) : ∃ x ∈ l, gInst l v u = x.put (gLift 0 u) 0 := by
  unfold gInst
  rw [dif_pos h]
  exact ⟨_, List.getElem_mem _, rfl⟩
theorem gInst_no {l : List Tm} {v u : Int} (h : ¬ (0 ≤ v ∧ v < l.length)) : gInst l v u = tV (v - l.length + u) := by
  unfold gInst
  rw [dif_neg h]
theorem lift_vs {x : Tm} (hx : x.may = true) {d w : Int} (hd : 0 ≤ d) (h : w ∈ (x.put (gLift 0 d) 0).vs 0) : ∃ v ∈ x.vs 0, w = v + d := by
  obtain ⟨p, hp, hw⟩ := put_vs x 0 w h
  have hb := vps_free hx p hp
  rw [gLift_at d hb.1, tV_vs _ _ (by omega)] at hw
  exact ⟨p.1, vps_vs_mem hp, by simp at hw; omega⟩
theorem inst_vs {t : Tm} (ht : t.may = true) {l : List Tm} (hl : ∀ x ∈ l, x.may = true) {w : Int} (h : w ∈ (t.put (gInst l) 0).vs 0) : (∃ x ∈ l, w ∈ x.vs 0) ∨ w + l.length ∈ t.vs 0 := by
  obtain ⟨p, hp, hw⟩ := put_vs t 0 w h
  have hb := vps_free ht p hp
  by_cases hv : 0 ≤ p.1 ∧ p.1 < l.length
  · obtain ⟨x, hx, e⟩ := gInst_at (u := p.2) hv
    rw [e] at hw
    have h1 := vs_down hb.2.1 (x.put (gLift 0 p.2) 0) 0 w (by rwa [Int.zero_add])
    obtain ⟨v, hv1, hv2⟩ := lift_vs (hl x hx) hb.2.1 h1
    have : w = v := by omega
    subst this
    exact Or.inl ⟨x, hx, hv1⟩
  · rw [gInst_no hv, tV_vs _ _ (by omega)] at hw
    simp at hw
    refine Or.inr ?_
    have : w + l.length = p.1 := by omega
    rw [this]
    exact vps_vs_mem hp
theorem free_inst {t : Tm} (ht : t.may = true) {l : List Tm} (hl : ∀ x ∈ l, x.may = true) (hm : (t.put (gInst l) 0).may = true) {F : Int} (hF : 0 ≤ F) (h1 : ∀ x ∈ l, x.free ≤ F) (h2 : t.free - l.length ≤ F) : (t.put (gInst l) 0).free ≤ F := by
  refine free_le hm hF (fun w hw => ?_)
  rcases inst_vs ht hl hw with ⟨x, hx, h⟩ | h
  · have := vs_free (hl x hx) h
    have := h1 x hx
    omega
  · have := vs_free ht h
    omega
theorem inst_ok {t : Tm} (ht : t.may = true) {l : List Tm} (hl : ∀ x ∈ l, x.may = true) (N S H E : Int) (hz : t.size ≤ N) (hh : t.ht ≤ H) (hS : 1 ≤ S) (hE : 1 ≤ E) (hx : ∀ x ∈ l, x.size ≤ S ∧ x.ht ≤ E ∧ x.free ≤ 500000) (hNS : N * S ≤ 65536) (hHE : H + E ≤ 4097) :
    instAns t l = (t.put (gInst l) 0, 0) ∧ (t.put (gInst l) 0).may = true ∧ (t.put (gInst l) 0).size ≤ N * S ∧ (t.put (gInst l) 0).ht ≤ H - 1 + E := by
  have hp := vps_free ht
  have a1 : (t.put (gInst l) 0).sound := sound_put t 0 (may_sound ht).1 (fun p hpp => by
    have hb := hp p hpp
    by_cases hv : 0 ≤ p.1 ∧ p.1 < l.length
    · obtain ⟨x, hxl, e⟩ := gInst_at (u := p.2) hv
      rw [e]
      refine sound_put x 0 (may_sound (hl x hxl)).1 (fun q hq => ?_)
      have hb2 := vps_free (hl x hxl) q hq
      have := (hx x hxl).2.2
      rw [gLift_at _ hb2.1]
      exact tV_sound (by omega) (by omega)
    · rw [gInst_no hv]
      exact tV_sound (by omega) (by omega))
  have a2 := size_put (g := gInst l) hS t 0 (fun p hpp => by
    by_cases hv : 0 ≤ p.1 ∧ p.1 < l.length
    · rw [gInst_size hl hv]
      exact (hx _ (List.getElem_mem _)).1
    · rw [gInst_else hv]
      omega)
  have a3 := ht_put (g := gInst l) hE t 0 (fun p hpp => by
    have hb := hp p hpp
    by_cases hv : 0 ≤ p.1 ∧ p.1 < l.length
    · obtain ⟨x, hxl, e⟩ := gInst_at (u := p.2) hv
      rw [e]
      have h1 := ht_put (g := gLift 0 p.2) (E := 1) (by omega) x 0 (fun q hq => by
        rw [gLift_at _ (vps_free (hl x hxl) q hq).1, tV_ht]
        omega)
      have := (hx x hxl).2.1
      omega
    · rw [gInst_no hv, tV_ht]
      omega)
  have a4 := Int.mul_le_mul_of_nonneg_right hz (show 0 ≤ S by omega)
  have hm : (t.put (gInst l) 0).may = true := may_of a1 (by omega) (by omega)
  refine ⟨?_, hm, by omega, by omega⟩
  unfold instAns
  rw [if_pos ⟨ht, by rw [List.all_eq_true]; exact hl⟩, if_pos hm]
theorem inst_is {t o : Tm} {l : List Tm} (ht : t.may = true) (hl : ∀ x ∈ l, x.may = true) (he : t.put (gInst l) 0 = o) (hm : o.may = true) : instAns t l = (o, 0) := by
  unfold instAns
  rw [if_pos ⟨ht, by rw [List.all_eq_true]; exact hl⟩, he, if_pos hm]
theorem lift_up {x : Tm} (hx : x.may = true) (hf : x.free ≤ 1000) (hz : x.size ≤ 30) : liftAns x 0 1 = (x.put (gLift 0 1) 0, 0) ∧ (x.put (gLift 0 1) 0).may = true ∧ (x.put (gLift 0 1) 0).size = x.size ∧ (x.put (gLift 0 1) 0).ht ≤ 30 ∧ (x.put (gLift 0 1) 0).free ≤ 1001 := by
  obtain ⟨h1, h2⟩ := lift_ok hx (x := 1) (by omega) (by omega) (fun p h => by have := vps_free hx p h; omega)
  have h3 := size_lift 0 1 x 0 1 (OkMay.start hx)
  have h4 := ht_size (x.put (gLift 0 1) 0)
  refine ⟨h1, h2, h3, by omega, free_le h2 (by omega) (fun w hw => ?_)⟩
  obtain ⟨v, hv, e⟩ := lift_vs hx (by omega) hw
  have := vs_free hx hv
  omega
/-- What SubstTwice asks. -/
theorem twice_facts {t u v : Tm} (ht : t.may = true) (hu : u.may = true) (hv : v.may = true) (zt : t.size ≤ 30) (zu : u.size ≤ 30) (zv : v.size ≤ 30) (_ : t.free ≤ 1000) (fu : u.free ≤ 1000) (fv : v.free ≤ 1000) :
    ∃ o up one a b w, instAns t [u, v] = (o, 0) ∧ liftAns v 0 1 = (up, 0) ∧ instAns t [up] = (one, 0) ∧ instAns one [u] = (o, 0) ∧ instAns t [u] = (a, 0) ∧ instAns a [v] = (b, 0) ∧ instAns u [v] = (w, 0) ∧ instAns t [v, w] = (b, 0) := by
  have et := ht_size t
  have eu := ht_size u
  have ev := ht_size v
  obtain ⟨u1, u2, u3, u4, u5⟩ := lift_up hv fv zv
  have luv : ∀ x ∈ [u, v], x.may = true := by simp [hu, hv]
  have lu : ∀ x ∈ [u], x.may = true := by simp [hu]
  have lv : ∀ x ∈ [v], x.may = true := by simp [hv]
  have lup : ∀ x ∈ [v.put (gLift 0 1) 0], x.may = true := by simp [u2]
  obtain ⟨a1, a2, _, _⟩ := inst_ok ht luv 30 30 30 30 zt (by omega) (by omega) (by omega) (fun x hx => by
    rcases List.mem_cons.1 hx with rfl | hx
    · exact ⟨zu, by omega, by omega⟩
    · simp at hx; subst hx; exact ⟨zv, by omega, by omega⟩) (by omega) (by omega)
  obtain ⟨b1, b2, _, _⟩ := inst_ok ht lup 30 30 30 30 zt (by omega) (by omega) (by omega) (fun x hx => by
    simp at hx; subst hx; exact ⟨by omega, by omega, by omega⟩) (by omega) (by omega)
  obtain ⟨c1, c2, _, _⟩ := inst_ok ht lu 30 30 30 30 zt (by omega) (by omega) (by omega) (fun x hx => by
    simp at hx; subst hx; exact ⟨by omega, by omega, by omega⟩) (by omega) (by omega)
  obtain ⟨d1, d2, d3, d4⟩ := inst_ok hu lv 30 30 30 30 zu (by omega) (by omega) (by omega) (fun x hx => by
    simp at hx; subst hx; exact ⟨by omega, by omega, by omega⟩) (by omega) (by omega)
  have d5 := free_inst hu lv d2 (F := 1000) (by omega) (by simp [fv]) (by simp; omega)
  have lvw : ∀ x ∈ [v, u.put (gInst [v]) 0], x.may = true := by simp [hv, d2]
  obtain ⟨e1, e2, _, _⟩ := inst_ok ht lvw 30 900 30 100 zt (by omega) (by omega) (by omega) (fun x hx => by
    rcases List.mem_cons.1 hx with rfl | hx
    · exact ⟨by omega, by omega, by omega⟩
    · simp at hx; subst hx; exact ⟨by omega, by omega, by omega⟩) (by omega) (by omega)
  exact ⟨_, _, _, _, _, _, a1, u1, b1, inst_is b2 lu (inst_two ht hu hv u2) a2, c1, inst_is c2 lv (inst_inst ht hu hv) e2, d1, e1⟩

/-- One after the other, the first one behind a binder more. -/
def gOff (g g' : Int → Int → Tm) : Int → Int → Tm := fun v d => if 1 ≤ v then (g (v - 1) (d + 1)).put g' d else g' v d
mutual
theorem put_off (g g' : Int → Int → Tm) : ∀ (t : Tm) (u e : Int), OkMay t e → (t.put g (u + 1)).put g' u = t.put (gOff g g') u
  | .mk k n s ls ts, u, e, ho => by
    by_cases hk : k = 2
    · rw [node_var ho.node.1 hk]
      show ((tV n).put g (u + 1)).put g' u = (tV n).put (gOff g g') u
      have no : ∀ (f : Int → Int → Tm) (d : Int), ¬ d ≤ n → (tV n).put f d = tV n := fun f d hd => by
        unfold tV
        rw [Tm.put, if_neg (fun h => hd h.2), putL]
      by_cases h1 : u + 1 ≤ n
      · rw [tV_put _ _ _ h1, tV_put _ _ _ (by omega)]
        unfold gOff
        rw [if_pos (by omega), show n - (u + 1) = n - u - 1 by omega]
      · rw [no _ _ h1]
        by_cases h2 : u ≤ n
        · rw [tV_put _ _ _ h2, tV_put _ _ _ h2]
          unfold gOff
          rw [if_neg (by omega)]
        · rw [no _ _ h2, no _ _ h2]
    · rw [Tm.put, if_neg (fun h => hk h.1), Tm.put, if_neg (fun h => hk h.1), Tm.put, if_neg (fun h => hk h.1), putL_off g g' k ts 0 u (e + 1) (fun x hx => ho.down x hx)]
theorem putL_off (g g' : Int → Int → Tm) (k : Int) : ∀ (ts : List Tm) (i : Nat) (u e : Int), (∀ x ∈ ts, OkMay x e) → putL g' k (putL g k ts i (u + 1)) i u = putL (gOff g g') k ts i u
  | [], i, u, e, _ => by rw [putL, putL, putL]
  | t :: r, i, u, e, ho => by
    rw [putL, putL, putL, show under k i (u + 1) = under k i u + 1 by unfold under; split <;> rfl, put_off g g' t _ e (ho t (by simp)), putL_off g g' k r _ _ e (fun x hx => ho x (by simp [hx]))]
end
/-- No variable is caught. -/
theorem inst_off {t u c : Tm} (ht : t.may = true) (hu : u.may = true) (hc : c.may = true) (hup : (u.put (gLift 0 1) 0).may = true) (hz : c.vps 0 = []) : (t.put (gInst [u]) 1).put (gInst [c]) 0 = (t.put (gInst [c]) 0).put (gInst [u]) 0 := by
  have hcc : c.put (gInst [u]) 0 = c := put_same hc (fun p hp => by rw [hz] at hp; cases hp)
  rw [inst_inst ht hc hu, hcc]
  have h0 := put_off (gInst [u]) (gInst [c]) t 0 1 (OkMay.start ht)
  rw [Int.zero_add] at h0
  rw [h0]
  refine put_congr t 0 (fun p hp => ?_)
  have hb := vps_free ht p hp
  unfold gOff
  by_cases h0 : p.1 = 0
  · rw [if_neg (by omega), h0]
    have e1 : gInst [c] 0 p.2 = c.put (gLift 0 p.2) 0 := gInst_last [] p.2
    have e2 : gInst [u, c] 0 p.2 = c.put (gLift 0 p.2) 0 := gInst_last [u] p.2
    rw [e1, e2]
  · rw [if_pos (by omega)]
    by_cases h1 : p.1 = 1
    · rw [h1, gInst_first]
      have e1 : gInst [u] (1 - 1) (p.2 + 1) = u.put (gLift 0 (p.2 + 1)) 0 := gInst_last [] (p.2 + 1)
      have e2 := lift_lift (OkMay.start hu) (a := 1) (b := p.2) (by omega) 0 (by omega) (by omega)
      have hback : (u.put (gLift 0 1) 0).put (gInst [c]) 0 = u := by
        rw [put_put]
        refine put_same hu (fun q h => ?_)
        have hq := vps_free hu q h
        rw [gLift_at 1 hq.1, tV_put _ _ _ (by omega), gInst_one (by omega)]
        congr 1
        omega
      rw [e1, show p.2 + 1 = 1 + p.2 by omega, ← e2, inst_lift (by simp [hc]) hup hb.2.1, hback]
    · rw [gInst_one (by omega), tV_put _ _ _ (by omega), gInst_one (by omega), gInst_back (by omega)]
      congr 1
      omega
def cF : ByteArray := ⟨#[102, 114, 101, 115, 104, 39]⟩
theorem tC_may : (tC cF).may = true := by kernel_rfl
theorem tC_vps : (tC cF).vps 0 = [] := by kernel_rfl
theorem lam_put (t : Tm) (g : Int → Int → Tm) : (t2 5 tS t).put g 0 = t2 5 tS (t.put g 1) := by
  have h0 : under 5 0 0 = 0 := by decide
  have h1 : under 5 (0 + 1) 0 = 1 := by decide
  have hs : tS.put g 0 = tS := by
    unfold tS
    rw [Tm.put, if_neg (fun h => absurd h.1 (by decide)), putL]
  have e : (t2 5 tS t).put g 0 = .mk 5 0 no [] (putL g 5 [tS, t] 0 0) := by
    unfold t2
    rw [Tm.put, if_neg (fun h => absurd h.1 (by decide))]
  rw [e, putL, putL, putL, h0, h1, hs]
  rfl
theorem lam_sound {t : Tm} : (t2 5 tS t).sound ↔ t.sound := by
  have hn : (t2 5 tS t).node = true := by
    have := node_t2 5 (by omega) tS t
    unfold badMay at this
    simpa using this
  have hs : tS.sound := (may_sound (show tS.may = true by kernel_rfl)).1
  unfold t2 at hn ⊢
  rw [Tm.sound, soundL, soundL, soundL]
  exact ⟨fun h => h.2.2.1, fun h => ⟨hn, hs, h, trivial⟩⟩
theorem lam_size (t : Tm) : (t2 5 tS t).size = t.size + 2 := by
  unfold t2 tS
  rw [Tm.size, sizeL, sizeL, sizeL, Tm.size, sizeL]
  omega
theorem lam_ht (t : Tm) : (t2 5 tS t).ht = t.ht + 1 := by
  have := ht_pos t
  unfold t2 tS
  rw [Tm.ht, htL, htL, htL, Tm.ht, htL]
  omega
/-- What SubstNames asks. -/
theorem names_facts {t u : Tm} (ht : t.may = true) (hu : u.may = true) (zt : t.size ≤ 30) (zu : u.size ≤ 30) (_ : t.free ≤ 1000) (fu : u.free ≤ 1000) :
    ∃ a up nm b x, instAns (t2 5 tS t) [u] = (t2 5 tS a, 0) ∧ liftAns u 0 1 = (up, 0) ∧ instAns t [tC cF] = (nm, 0) ∧ instAns nm [u] = (b, 0) ∧ instAns a [tC cF] = (b, 0) ∧ instAns t [u] = (x, 0) ∧ x.free ≤ max (max (t.free - 1) 0) u.free ∧ up.size = u.size ∧ x.may = true ∧ up.may = true := by
  have et := ht_size t
  have eu := ht_size u
  have hC := tC_may
  have hCz : (tC cF).size = 1 := by kernel_rfl
  have hCh : (tC cF).ht = 1 := by kernel_rfl
  have hCf : (tC cF).free = 0 := by kernel_rfl
  obtain ⟨u1, u2, u3, _, _⟩ := lift_up hu fu zu
  have lu : ∀ x ∈ [u], x.may = true := by simp [hu]
  have lc : ∀ x ∈ [tC cF], x.may = true := by simp [hC]
  have hlm : (t2 5 tS t).may = true := may_of (lam_sound.2 (may_sound ht).1) (by rw [lam_size]; omega) (by rw [lam_ht]; omega)
  obtain ⟨a1, a2, _, _⟩ := inst_ok hlm lu 32 30 31 30 (by rw [lam_size]; omega) (by rw [lam_ht]; omega) (by omega) (by omega) (fun x hx => by
    simp at hx; subst hx; exact ⟨by omega, by omega, by omega⟩) (by omega) (by omega)
  rw [lam_put] at a1 a2
  have ham : (t.put (gInst [u]) 1).may = true := may_of (lam_sound.1 (may_sound a2).1) (by have := may_size' a2; rw [lam_size] at this; omega) (by have := (may_sound a2).2; rw [lam_ht] at this; omega)
  obtain ⟨n1, n2, n3, n4⟩ := inst_ok ht lc 30 1 30 1 zt (by omega) (by omega) (by omega) (fun x hx => by
    simp at hx; subst hx; exact ⟨by omega, by omega, by omega⟩) (by omega) (by omega)
  obtain ⟨b1, b2, _, _⟩ := inst_ok n2 lu 30 30 30 30 (by omega) (by omega) (by omega) (by omega) (fun x hx => by
    simp at hx; subst hx; exact ⟨by omega, by omega, by omega⟩) (by omega) (by omega)
  obtain ⟨x1, x2, _, _⟩ := inst_ok ht lu 30 30 30 30 zt (by omega) (by omega) (by omega) (fun x hx => by
    simp at hx; subst hx; exact ⟨by omega, by omega, by omega⟩) (by omega) (by omega)
  have x5 := free_inst ht lu x2 (F := max (max (t.free - 1) 0) u.free) (by omega) (by simp; omega) (by simp; omega)
  exact ⟨_, _, _, _, _, a1, u1, n1, b1, inst_is ham lc (inst_off ht hu hC u2 tC_vps) b2, x1, x5, u3, x2, u2⟩
end Trm
end Go.Proofs.Ytjicdmohnfcflaa

