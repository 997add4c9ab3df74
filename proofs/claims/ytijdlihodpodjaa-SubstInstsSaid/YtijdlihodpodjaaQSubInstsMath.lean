/-
  battenref04.Grown; the mathematics of SubstInsts: what Levels and Inst answer is what is asked for.
-/
import Derived.Test.YtijdlihodpodjaaQSubRefLev
import Derived.Test.YtijdlihodpodjaaQSubT
import Derived.Test.YtijdlihodpodjaaQLevA
namespace Go.Proofs.Ytijdlihodpodjaa
open Go.RowKit Go.Shelf Lvl Trm

namespace Trm
mutual
theorem thr_err {L : List Lv} : ∀ (t : Tm) (y : List Lv) (d u : Int), OkMay t d → LGood L y → (t.thr lfLev y u).2.1 = t.lerr L
  | .mk k n s ls ts, y, d, u, ho, hy => by
    rw [Tm.thr, Tm.lerr]
    by_cases hts : ts.isEmpty = true
    · rw [if_pos hts]
      have h0 : ts = [] := List.isEmpty_iff.1 hts
      subst h0
      show (levL ls y).2.1 = _
      rw [levL_err ls y hy, lerrL]
      split
      · assumption
      · rfl
    · rw [if_neg hts]
      have hls : ls = [] := node_inner ho.node.1 (show ts ≠ [] by simpa using hts)
      subst hls
      rw [if_pos (show errL L [] = 0 from rfl)]
      unfold fin
      exact thrL_err k ts y (d + 1) u (fun x hx => ho.down x hx) hy
theorem thrL_err {L : List Lv} (k : Int) : ∀ (ts : List Tm) (y : List Lv) (d u : Int), (∀ x ∈ ts, OkMay x d) → LGood L y → (thrL lfLev k ts y u).2.1 = lerrL L ts
  | [], y, d, u, _, hy => by rw [thrL, lerrL]
  | t :: r, y, d, u, ho, hy => by
    have h1 := thr_err (L := L) t y d (und k r.isEmpty u) (ho t (by simp)) hy
    rw [thrL, lerrL]
    by_cases he : (t.thr lfLev y (und k r.isEmpty u)).2.1 = 0
    · rw [if_pos he, if_pos (by rw [← h1]; exact he)]
      exact thrL_err k r _ d _ (fun x hx => ho x (by simp [hx])) (((thr_lev (L := L) t y d (und k r.isEmpty u) (ho t (by simp)) hy).2 he).1)
    · rw [if_neg he, if_neg (by rw [← h1]; exact he)]
      exact h1
theorem levL_err {L : List Lv} : ∀ (ls y : List Lv), LGood L y → (levL ls y).2.1 = errL L ls
  | [], y, _ => by rw [levL]; rfl
  | l :: r, y, hy => by
    rw [levL, errL]
    have e := hy.inst l
    by_cases ho : (inst l y).2 = 0
    · rw [if_pos ho, if_pos (by rw [← e]; exact ho)]
      exact levL_err r _ (hy.next ho)
    · rw [if_neg ho, if_neg (by rw [← e]; exact ho), e]
end

/-- What the document's Levels answers, and its error, of any term. -/
def levelsB (t : Tm) (L : List Lv) : Tm × Int := if t.may = true then levB L t else (zeroT, 1)
theorem levels_told (t : Tm) (L : List Lv) : toldB (levelsAns t L).1 (levelsAns t L).2 (levelsB t L).1 (levelsB t L).2 = true := by
  unfold levelsAns levelsB
  cases hm : t.may
  · rw [if_pos rfl, if_neg (by simp)]
    exact told_err (by decide)
  · rw [if_neg (by simp), if_pos rfl]
    have h0 := thr_err (L := L) t L 1 0 (OkMay.start hm) (.inl rfl)
    unfold levB ansT tAns
    rw [h0]
    by_cases he : t.lerr L = 0
    · rw [if_pos he, if_pos he, if_neg (by simpa using he)]
      have h2 := ((thr_lev (L := L) t L 1 0 (OkMay.start hm) (.inl rfl)).2 (by rw [h0]; exact he)).2
      rw [h2]
      exact told_put
    · rw [if_pos he, if_neg he]
      exact told_err he
/-- What Inst answers of terms that may be is what is asked for; of others it is ErrArg. -/
theorem inst_told {t : Tm} {l : List Tm} (h : (t.may && l.all Tm.may) = true) : toldB (instAns t l).1 (instAns t l).2 (t.put (gInst l) 0) 0 = true := by
  unfold instAns
  rw [if_pos (by simpa using h)]
  exact told_put
theorem inst_none {t : Tm} {l : List Tm} (h : (t.may && l.all Tm.may) = false) : instAns t l = (zeroT, 1) := by
  unfold instAns
  rw [if_neg]
  rintro ⟨h1, h2⟩
  rw [h1, h2] at h
  cases h
/-- How many nodes Inst may have at most. -/
def grown (t : Tm) (l : List Tm) : Int := t.size * l.foldl (fun m x => max m x.size) 1
def GrRel (w : World) (o : Obj) (l : List Tm) (G : Int) (v i : Value) (wr : World) : Prop :=
  ∃ (j : Nat) (M : Int), v = .int .i64 M ∧ i = .int .i64 j ∧ j ≤ l.length ∧ 1 ≤ M ∧ M ≤ 131072 ∧ (l.drop j).foldl (fun m x => max m x.size) M = G ∧ Kept w wr o
theorem few_size {t : Tm} (h : t.deep = false) : t.size ≤ 131072 := deep_size h
end Trm

set_option maxRecDepth 100000 in
set_option maxHeartbeats 4000000 in
theorem Grown_any (t : Tm) (h : Hd) (l : List Tm) (lo : Option Addr) (lc : Nat) (w : World) (hin : t.In w.heap.size w h) (hl : RowIn w.heap.size w lo 0 l) (hln : l.length ≤ 1000000) (ht : t.deep = false) (hld : ∀ x ∈ l, x.deep = false) :
    Calls Try.prog 38 #[t.val h, .slice lo l.length lc] w fun e w' => e = .returned (.int .i64 (grown t l)) ∧ Below w.heap.size w w' := by
  have HS := Lib.hid (fun (W : World) (hW : Below w.heap.size w W) => Size_any t h W (by have := few_size ht; omega) (carry hin hW))
  have hs1 := few_size ht
  have hs0 := t.size_pos
  have HL := Lib.hid hl
  have HD := Lib.hid hld
  have hmax := run_max
  obtain ⟨G, hG⟩ : ∃ G, G = l.foldl (fun m x => max m x.size) 1 := ⟨_, rfl⟩
  have hgr : grown t l = t.size * G := by rw [hG]; rfl
  rw [hgr]
  have HG := Lib.hid hG.symm
  unfold Tm.val at HS ⊢
  dsimp only [Tm.vals] at HS ⊢
  clear hin hl hld hG hgr ht
  go_enter Try.func38, Try.ntmps38
  go_wp2_with fail
  go_loopw [5, 6] (fun v i wr => GrRel w (t.box h) l G v i wr) (fun _ i _ => l.length - (intOf i).toNat)
  case atStart => exact ⟨0, 1, rfl, rfl, by omega, by omega, by omega, HG.out, Kept.start _ _⟩
  case round =>
    obtain ⟨j, M, rfl, rfl, hj, hM0, hM1, hg, hkept⟩ := hrel
    have HK := Lib.hid hkept
    have HGk := Lib.hid hg
    clear hkept hg
    by_cases hlt : j < l.length
    · obtain ⟨b, off, rfl, hb, hx, ⟨p0, p1, p2, p3, p4⟩, hi⟩ := (HL.out.below HK.out.bel).place j hlt
      rw [Nat.zero_add] at p0 p1 p2 p3 p4
      have HI := Lib.hid (Tm.In.mono HK.out.bel.size _ _ hi)
      have hxs := few_size (HD.out _ (List.getElem_mem hlt))
      have hxp := (l[j]).size_pos
      have HX := Lib.hid (fun (W : World) (hW : Below wr.heap.size wr W) => Size_any l[j] hx W (by omega) (carry HI.out hW))
      have HN : Hid ((l.drop (j + 1)).foldl (fun m x => max m x.size) (max M l[j].size) = G) := Lib.hid (by
        have h0 := HGk.out
        rw [List.drop_eq_getElem_cons hlt, List.foldl_cons] at h0
        exact h0)
      clear hi
      generalize l[j].size = X at hxs hxp HX HN
      generalize l[j] = x at p0 p1 p2 p3 p4 HX HI
      unfold Tm.val at HX
      dsimp only [Tm.vals] at HX
      go_wp2_with fail
      refine (HX.out _ (Below.refl _ _)).mono ?_
      rintro e w2 ⟨rfl, b2⟩
      have HK2 := Lib.hid (HK.out.step b2)
      clear b2 p0 p1 p2 p3 p4
      go_wp2_with fail
      go_roundw
      case rel => exact ⟨j + 1, max M X, rfl, by go_num, by omega, by omega, by omega, HN.out, HK2.out⟩
      case measure => simp [intOf]; omega
    · have HE : Hid (M = G) := Lib.hid (by
        have h0 := HGk.out
        rw [List.drop_eq_nil_of_le (by omega)] at h0
        exact h0)
      obtain ⟨c0, c1, c2, c3, c4⟩ := Tm.cells HK.out.box
      have hmul : 0 ≤ t.size * M ∧ t.size * M ≤ 131072 * 131072 := ⟨Int.mul_nonneg (by omega) (by omega), Int.mul_le_mul hs1 hM1 (by omega) (by omega)⟩
      have hw1 : IntKind.i64.wrap (t.size * M) = t.size * M := IntWalk.i64_in _ (by omega)
      go_wp2_with fail
      refine (HS.out _ HK.out.bel).mono ?_
      rintro e w2 ⟨rfl, b2⟩
      have HK2 := Lib.hid (HK.out.step b2)
      clear b2
      go_wp2_with fail
      go_ret
      exact ⟨ret_int (by rw [HE.out]), HK2.out.bel⟩
end Go.Proofs.Ytijdlihodpodjaa
