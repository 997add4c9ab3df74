/-
  battenref03.Binds, free, Free: of terms that may be.
-/
import Derived.Test.YtijdlihodpodjaaQTrmE
import Derived.Test.YtijdlihodpodjaaQTrmA
import Derived.Test.YtijdlihodpodjaaQTrmWorks
import Derived.Deep.RegionHeld3
import Derived.Deep.AppendLies
namespace Go.Proofs.Ytijdlihodpodjaa
open Go.RowKit Go.Shelf Lvl Trm

namespace Trm
/-- Is a variable bound in a term of that place? -/
def bnd (K i : Int) : Int := if ((K = 5 ∨ K = 6) ∧ i = 1) ∨ (K = 7 ∧ i = 2) then 1 else 0
theorem bnd_under {K : Int} {i : Nat} (u : Int) : u + bnd K i = under K i u := by
  unfold bnd under binds kids
  by_cases h5 : K = 5
  · subst h5; simp; split <;> omega
  · by_cases h6 : K = 6
    · subst h6; simp; split <;> omega
    · by_cases h7 : K = 7
      · subst h7; simp; split <;> omega
      · simp [h5, h6, h7]
theorem top_from (l : List Int) : ∀ n m : Int, l.foldl (fun n v => max n (v + 1)) (max n m) = max n (l.foldl (fun n v => max n (v + 1)) m) := by
  induction l with
  | nil => intro n m; rfl
  | cons a r ih => intro n m; simp only [List.foldl_cons]; rw [← ih]; congr 1; omega
theorem top_append (a b : List Int) : top (a ++ b) = max (top a) (top b) := by
  have h := top_from b (top a) 0
  unfold top at h ⊢
  rw [List.foldl_append, ← h]
  congr 1
  have := top_ge a
  unfold top at this
  omega
theorem top_tV (n u : Int) : top ((tV n).vs u) = max 0 (n + 1 - u) := by
  unfold tV
  rw [Tm.vs, vsL]
  unfold top
  by_cases hun : u ≤ n
  · rw [if_pos ⟨rfl, hun⟩]; simp; omega
  · rw [if_neg (fun hh => hun hh.2)]; simp; omega
def FrRel (w : World) (o : Obj) (k : Int) (ts : List Tm) (u G : Int) (v i : Value) (wr : World) : Prop :=
  ∃ (j : Nat) (L : Int), v = .int .i64 L ∧ i = .int .i64 j ∧ j ≤ ts.length ∧ 0 ≤ L ∧ max L (top (vsL k (ts.drop j) j u)) = G ∧ Kept w wr o
end Trm

set_option maxRecDepth 100000 in
set_option maxHeartbeats 1000000 in
theorem RefBinds_any (K n : Int) (s : ByteArray) (lo to : Option Addr) (ln lc tn tc : Nat) (i : Int) (w : World) :
    Calls Try.prog 79 #[.agg #[.int .u8 K, .int .i64 n, .string s, .slice lo ln lc, .slice to tn tc], .int .i64 i] w fun e w' => e = .returned (.int .i64 (bnd K i)) ∧ Below w.heap.size w w' := by
  by_cases h5 : K = 5
  · subst h5
    by_cases h1 : i = 1
    · subst h1
      rw [show bnd 5 1 = 1 by decide]
      go_enter Try.func79, Try.ntmps79
      go_wp2_with fail
      go_ret
      exact ⟨rfl, below_one _ _⟩
    · rw [show bnd 5 i = 0 by unfold bnd; rw [if_neg (by omega)]]
      have d1 : (i == 1) = false := by simpa using h1
      go_enter Try.func79, Try.ntmps79
      go_wp2_with fail
      go_ret
      exact ⟨rfl, below_one _ _⟩
  · by_cases h6 : K = 6
    · subst h6
      by_cases h1 : i = 1
      · subst h1
        rw [show bnd 6 1 = 1 by decide]
        go_enter Try.func79, Try.ntmps79
        go_wp2_with fail
        go_ret
        exact ⟨rfl, below_one _ _⟩
      · rw [show bnd 6 i = 0 by unfold bnd; rw [if_neg (by omega)]]
        have d1 : (i == 1) = false := by simpa using h1
        go_enter Try.func79, Try.ntmps79
        go_wp2_with fail
        go_ret
        exact ⟨rfl, below_one _ _⟩
    · by_cases h7 : K = 7
      · subst h7
        by_cases h2 : i = 2
        · subst h2
          rw [show bnd 7 2 = 1 by decide]
          go_enter Try.func79, Try.ntmps79
          go_wp2_with fail
          go_ret
          exact ⟨rfl, below_one _ _⟩
        · rw [show bnd 7 i = 0 by unfold bnd; rw [if_neg (by omega)]]
          have d2 : (i == 2) = false := by simpa using h2
          go_enter Try.func79, Try.ntmps79
          go_wp2_with fail
          go_ret
          exact ⟨rfl, below_one _ _⟩
      · rw [show bnd K i = 0 by unfold bnd; rw [if_neg (by omega)]]
        have d5 : (K == 5) = false := by simpa using h5
        have d6 : (K == 6) = false := by simpa using h6
        have d7 : (K == 7) = false := by simpa using h7
        go_enter Try.func79, Try.ntmps79
        go_wp2_with fail
        go_ret
        exact ⟨rfl, below_one _ _⟩

set_option maxRecDepth 100000 in
set_option maxHeartbeats 2000000 in
theorem free_t_any (t : Tm) : ∀ (h : Hd) (d u : Int) (w : World), OkMay t d → 0 ≤ u → u ≤ d → t.In w.heap.size w h →
    Calls Try.prog 80 #[t.val h, .int .i64 u] w fun e w' => e = .returned (.int .i64 (top (t.vs u))) ∧ Below w.heap.size w w' := by
  induction t using Tm.ind with
  | h t ih =>
    intro h d u w hok hu0 hud hin
    have hfit := hin.fit
    have hts := hfit.ts
    have hd1 := hok.node.2
    have hnum := node_num hok.node.1
    have hfew := (node_few hok.node.1).1
    have hf3 := (node_few hok.node.1).2.1
    clear hfit
    have HIN := Lib.hid hin
    have HIH := Lib.hid ih
    have HOK := Lib.hid hok
    have hmax := run_max
    by_cases h2 : t.k = 2
    · have hv := node_var hok.node.1 h2
      have hG : Trm.top (t.vs u) = max 0 (t.n + 1 - u) := by
        have := top_tV t.n u
        rw [← hv] at this
        exact this
      rw [hG]
      unfold Tm.val Tm.vals
      rw [h2]
      have hw1 : IntKind.i64.wrap (t.n + 1) = t.n + 1 := IntWalk.i64_in _ (by omega)
      have hw2 : IntKind.i64.wrap (t.n + 1 - u) = t.n + 1 - u := IntWalk.i64_in _ (by omega)
      clear hin ih hG hv h2
      go_enter Try.func80, Try.ntmps80
      go_wp2_with fail
      go_ret
      exact ⟨rfl, below_one _ _⟩
    · have hk2 : (t.k == 2) = false := by simpa using h2
      obtain ⟨G, hG⟩ : ∃ G, G = top (t.vs u) := ⟨_, rfl⟩
      rw [← hG]
      have HG : Hid (max 0 (top (vsL t.k (t.ts.drop 0) 0 u)) = G) := by
        rw [hG]
        show max 0 (top (vsL t.k t.ts 0 u)) = top (t.vs u)
        have e : t.vs u = vsL t.k t.ts 0 u := by
          cases t with
          | mk k n s ls ts => rw [Tm.vs, if_neg (fun hh => h2 hh.1)]; rfl
        rw [e]
        have := top_ge (vsL t.k t.ts 0 u)
        omega
      clear hG hin ih hok
      unfold Tm.val Tm.vals
      go_enter Try.func80, Try.ntmps80
      go_wp2_with fail
      go_loopw [5, 6] (fun v i wr => FrRel w (t.box h) t.k t.ts u G v i wr) (fun _ i _ => t.ts.length - (intOf i).toNat)
      case atStart => exact ⟨0, 0, rfl, rfl, by omega, by omega, HG.out, Kept.start _ _⟩
      case round =>
        obtain ⟨j, L, rfl, rfl, hj, hL0, hGk, hkept⟩ := hrel
        have HK := Lib.hid hkept
        have HGk := Lib.hid hGk
        clear hkept hGk
        obtain ⟨c0, c1, c2, c3, c4⟩ := Tm.cells HK.out.box
        by_cases hlt : j < t.ts.length
        · obtain ⟨b, off, hao, hat⟩ := HIN.out.kid j hlt
          obtain ⟨hb, hd', hcx, hin'⟩ := hat.below HK.out.bel
          rw [hao] at c4
          have hbw := HK.out.bel.size
          have HI := Lib.hid (Tm.In.mono HK.out.bel.size _ _ hin')
          have hun := bnd_under (K := t.k) (i := j) u
          have hul := under_le t.k j u
          have HX := Lib.hid (fun (W : World) (hW : Below wr.heap.size wr W) => HIH.out _ (List.getElem_mem hlt) hd' (d + 1) (under t.k j u) W (HOK.out.down _ (List.getElem_mem hlt)) (by omega) (by omega) (carry HI.out hW))
          have HNX : Hid (max (max L (top (t.ts[j].vs (under t.k j u)))) (top (vsL t.k (t.ts.drop (j + 1)) (j + 1) u)) = G) := Lib.hid (by
            have h0 := HGk.out
            rw [drop_get hlt, vsL, top_append] at h0
            by_cases hl : (j : Int) = kids t.k - 1
            · have hn : t.ts.drop (j + 1) = [] := List.drop_eq_nil_of_le (by omega)
              rw [hn, vsL] at h0 ⊢
              rw [← h0]; omega
            · have hun2 : under t.k j u = u := by unfold under; rw [if_neg (fun hh => hl hh.2)]
              rw [hun2] at h0 ⊢
              rw [← h0]; omega)
          have HB := Lib.hid (fun (W : World) => RefBinds_any t.k t.n t.s h.lo (some ⟨b, off, none⟩) t.ls.length h.lc t.ts.length h.tc j W)
          have hwr : IntKind.i64.wrap (u + bnd t.k j) = under t.k j u := by rw [hun]; exact IntWalk.i64_in _ (by omega)
          have hwr2 : IntKind.i64.wrap (under t.k j u) = under t.k j u := IntWalk.i64_in _ (by omega)
          have HCX := Lib.hid hcx
          obtain ⟨k0, k1, k2, k3, k4⟩ := hcx
          have HAO := Lib.hid hao
          clear hat hin' hao
          generalize hq : top (t.ts[j].vs (under t.k j u)) = X at HX HNX
          generalize t.ts[j] = x at k0 k1 k2 k3 k4 HX HI HCX hq
          have hX0 : 0 ≤ X := by rw [← hq]; exact top_ge _
          unfold Tm.val Tm.vals at HX
          clear hq
          have hbz : b < wr.heap.size := by omega
          go_wp2_with fail
          have hbw0 : Below wr.heap.size wr wr.drew := (Below.refl _ _).drew
          go_region_held3 (fun w' => Below wr.heap.size wr w' ∧ w'.cell? ⟨w.heap.size, 0, none⟩ = some (.int .u8 t.k) ∧ w'.cell? ⟨w.heap.size, 1, none⟩ = some (.int .i64 t.n) ∧ w'.cell? ⟨w.heap.size, 2, none⟩ = some (.string t.s) ∧ w'.cell? ⟨w.heap.size, 3, none⟩ = some (.slice h.lo t.ls.length h.lc) ∧ w'.cell? ⟨w.heap.size, 4, none⟩ = some (.slice (some ⟨b, off, none⟩) t.ts.length h.tc) ∧ w'.cell? ⟨b, off + j * 5, none⟩ = some (.int .u8 x.k) ∧ w'.cell? ⟨b, off + j * 5 + 1, none⟩ = some (.int .i64 x.n) ∧ w'.cell? ⟨b, off + j * 5 + 2, none⟩ = some (.string x.s) ∧ w'.cell? ⟨b, off + j * 5 + 3, none⟩ = some (.slice hd'.lo x.ls.length hd'.lc) ∧ w'.cell? ⟨b, off + j * 5 + 4, none⟩ = some (.slice hd'.to x.ts.length hd'.tc))
            (go_keep)
            (first
              | (go_at_call 79; (with_reducible refine (HB.out _).mono ?_); rintro e w3 ⟨rfl, bw⟩; have hb3 : Below wr.heap.size wr w3 := Trm.go (by first | assumption | exact (Below.refl _ _).drew) bw; obtain ⟨c0, c1, c2, c3, c4⟩ := Tm.cells (HK.out.step hb3).box; rw [HAO.out] at c4; obtain ⟨k0, k1, k2, k3, k4⟩ := HCX.out.below hb3 hbz)
              | (go_at_call 80; (with_reducible refine (HX.out _ ?_).mono ?_); (first | assumption | exact (Below.refl _ _).drew); rintro e w3 ⟨rfl, bw⟩; have hb3 : Below wr.heap.size wr w3 := Trm.go (by first | assumption | exact (Below.refl _ _).drew) bw; obtain ⟨c0, c1, c2, c3, c4⟩ := Tm.cells (HK.out.step hb3).box; rw [HAO.out] at c4; obtain ⟨k0, k1, k2, k3, k4⟩ := HCX.out.below hb3 hbz))
          have HKF := Lib.hid (HK.out.step hb3)
          go_wp2_with fail
          go_roundw
          case rel => exact ⟨j + 1, max L X, rfl, by go_num, by omega, by omega, HNX.out, HKF.out⟩
          case measure => simp [intOf]; omega
        · have HE : Hid (L = G) := by
            have := HGk.out
            rw [List.drop_eq_nil_of_le (by omega), vsL] at this
            show _ = _
            rw [← this]
            have : Trm.top [] = 0 := rfl
            omega
          go_wp2_with fail
          go_ret
          exact ⟨ret_int HE.out, HK.out.bel⟩

set_option maxRecDepth 100000 in
theorem RefFree_any (t : Tm) (h : Hd) (w : World) (hmay : t.may = true) (hin : t.In w.heap.size w h) :
    Calls Try.prog 25 #[t.val h] w fun e w' => e = .returned (.int .i64 t.free) ∧ Below w.heap.size w w' := by
  have hf : t.free = top (t.vs 0) := by unfold Tm.free; rw [if_pos hmay]; rfl
  have HX := Lib.hid (free_t_any t h 1 0 _ (OkMay.start hmay) (by omega) (by omega) (carry hin (below_one w (t.box h))))
  rw [hf]
  generalize top (t.vs 0) = R at HX ⊢
  unfold Tm.val at HX ⊢
  unfold Tm.box at HX
  dsimp only [Tm.vals] at HX ⊢
  clear hin hf
  go_enter Try.func25, Try.ntmps25
  go_wp2_with fail
  refine HX.out.mono ?_
  rintro e w1 ⟨rfl, b1⟩
  have HB := Lib.hid (Trm.go (below_one w _) b1)
  clear b1
  go_wp2_with fail
  go_ret
  exact ⟨rfl, HB.out⟩
end Go.Proofs.Ytijdlihodpodjaa

/-
  battenref04.with; what the document's functions of layer 4 make: a node of terms that stand in a row of the call's own.
-/
namespace Go.Proofs.Ytijdlihodpodjaa
open Go.RowKit Go.Shelf Lvl Trm

namespace Trm
/-- A leaf without slices lies anywhere, whatever its slices' places are. -/
theorem firm_leaf {P : Nat → Prop} {w : World} {k n : Int} {s : ByteArray} {h : Hd} (hk0 : 0 ≤ k) (hk1 : k ≤ 255) (hn0 : -9223372036854775808 ≤ n) (hn1 : n ≤ 9223372036854775807) (hs : s.size ≤ 9223372036854775807) : FirmS P w (.mk k n s [] []) h :=
  fun _ _ => Tm.In_iff.2 ⟨⟨hk0, hk1, hn0, hn1, hs, by simp [Tm.ls], by simp [Tm.ts]⟩, ⟨fun k hk => by simp [Tm.ls] at hk⟩, fun hn => by simp [Tm.ls] at hn, RowIn.mk fun i hi => by simp [Tm.ts] at hi⟩

/-- A row of the call's own, of terms that lie there whatever is written into the blocks of Q: a node of them, with the levels of a node that was there. -/
theorem firm_node {P Q : Nat → Prop} {B base : Nat} {w : World} {v : Value} {ps : List (Tm × Hd)} {k n : Int} {s : ByteArray} {ls : List Lv} {lo : Option Addr} {lc : Nat}
    (hown : w.ownsRow base 25 5 v ps.length (flat ps)) (hk0 : 0 ≤ k) (hk1 : k ≤ 255) (hn0 : -9223372036854775808 ≤ n) (hn1 : n ≤ 9223372036854775807) (hs : s.size ≤ 9223372036854775807) (hl : ls.length ≤ 9223372036854775807)
    (hls : LRow w lo ls) (hlow : Low B lo ls.length) (hB : B ≤ w.heap.size) (hPB : ∀ q, P q → B ≤ q) (hPb : ∀ q, P q → q < base) (hPQ : ∀ q, P q → Q q) (hf : ∀ p ∈ ps, FirmS Q w p.1 p.2) (hn : ps.length ≤ 1000000) :
    ∃ to tc, v = .slice to ps.length tc ∧ FirmS P w (.mk k n s ls (ps.map (·.1))) ⟨lo, lc, to, tc⟩ := by
  obtain ⟨hfl, ⟨rfl, hn0'⟩ | ⟨g, cap, cur, rfl, hbg, hgb, _⟩⟩ := hown
  · have hps := List.eq_nil_of_length_eq_zero hn0'
    subst hps
    exact ⟨none, 0, rfl, fun w' hr => Tm.In_iff.2 ⟨⟨hk0, hk1, hn0, hn1, hs, hl, by simp [Tm.ts]⟩, LRow.low hls hlow (hr.below hPB hB), hlow.mono (by have := hr.size; omega), RowIn.mk fun i hi => by simp [Tm.ts] at hi⟩⟩
  · have hown : w.ownsRow base 25 5 (.slice (some ⟨g, 0, none⟩) ps.length cap) ps.length (flat ps) := ⟨hfl, Or.inr ⟨g, cap, cur, rfl, hbg, hgb, ‹_›⟩⟩
    obtain ⟨hg2, _, htb⟩ := block_of_own hown
    have hgl := htb.lt
    refine ⟨some ⟨g, 0, none⟩, cap, rfl, fun w' hr => Tm.In_iff.2 ⟨⟨hk0, hk1, hn0, hn1, hs, hl, by simp [Tm.ts]; omega⟩, LRow.low hls hlow (hr.below hPB hB), hlow.mono (by have := hr.size; omega), ?_⟩⟩
    exact TBlock.row (htb.ranS hr (fun hp => by have := hPb _ hp; omega)) (by have := hr.size; omega) (fun p hp => (hf p hp).less (fun q _ => hPQ q) w' hr)

/-- What is answered: a term that lies there whatever is written into the blocks from B on that were there. -/
def RefPost (B : Nat) (w : World) (y : Tm) (e : Ending) (w' : World) : Prop := ∃ h', e = .returned (y.val h') ∧ FirmS (fun q => B ≤ q ∧ q < w.heap.size) w' y h' ∧ Below w.heap.size w w'

theorem put_node {t : Tm} (g : Int → Int → Tm) (u : Int) (h : t.k ≠ 2) : t.put g u = .mk t.k t.n t.s t.ls (putL g t.k t.ts 0 u) := by
  cases t with
  | mk k n s ls ts => rw [Tm.put, if_neg (fun hh => h hh.1)]; rfl
/-- The document hands the binders on to each term by its place; so does ours, by the places ahead of it. -/
theorem putL_at (g : Int → Int → Tm) (k : Int) : ∀ (ts : List Tm) (i : Nat) (u : Int), (i : Int) + ts.length ≤ max (kids k) 0 → ∀ j (hj : j < ts.length), (putL g k ts i u)[j]'(by rw [putL_length]; exact hj) = ts[j].put g (under k (i + j) u)
  | [], _, _, _, j, hj => by simp at hj
  | t :: r, i, u, hk, 0, hj => by simp only [putL, List.getElem_cons_zero, Nat.add_zero]
  | t :: r, i, u, hk, j + 1, hj => by
    simp only [putL, List.getElem_cons_succ]
    rw [putL_at g k r (i + 1) _ (by simp at hk; omega) j (by simpa using hj)]
    have hi : under k i u = u := by
      unfold under
      rw [if_neg]
      rintro ⟨_, h2⟩
      simp at hk hj
      omega
    rw [hi, show i + 1 + j = i + (j + 1) by omega]

/-! A row of the call's own that is appended to in a loop whose round calls the function itself. -/
theorem own_below {w w' : World} {base e size n : Nat} {v : Value} {xs : List Value} (h : w.ownsRow base e size v n xs) (b : Below w.heap.size w w') : w'.ownsRow base e size v n xs := by
  obtain ⟨h1, h2 | ⟨g, cap, cur, hv, hb, hg, h3⟩⟩ := h
  · exact ⟨h1, Or.inl h2⟩
  · exact ⟨h1, Or.inr ⟨g, cap, cur, hv, hb, (b.block g (Array.getElem?_eq_some_iff.1 hg).1).trans hg, h3⟩⟩
theorem own_low {w : World} {base e size n : Nat} {v : Value} {xs : List Value} (h : w.ownsRow base e size v n xs) {k : Nat} (hk : v.ownBlock = some k) : base ≤ k ∧ k < w.heap.size := h.lt k hk
theorem row_below {w wr w4 w5 : World} {e size n : Nat} {v : Value} {xs : List Value} {o : Obj} (hb4 : Below wr.heap.size wr w4) (hown : wr.ownsRow (w.heap.size + 2) e size v n xs) (hg : (w4.alloc o).grownBy w5 v.ownBlock) (h2 : w.heap.size + 2 ≤ wr.heap.size) : Below (w.heap.size + 2) wr w5 := by
  have h1 := hb4.alloc hb4.size o
  refine ⟨hg.os.trans h1.os, hg.tape.trans h1.tape, hg.output.trans h1.output, Nat.le_trans h1.size hg.size, fun k hk => ?_⟩
  have hk2 : k < wr.heap.size := by omega
  rw [hg.block k (Nat.lt_of_lt_of_le hk2 h1.size) (fun he => by have := own_low hown he.symm; omega), h1.block k hk2]

/-- Behind some rounds of the document's loop over a node's terms: what is to come is R; the list is a row of the call's own, and none of its terms minds what is written into that row. -/
def RowRel (B : Nat) (w : World) (o : Obj) (R : List Tm) (v i : Value) (wr : World) : Prop :=
  ∃ (j : Nat) (ps : List (Tm × Hd)), i = .int .i64 j ∧ j ≤ R.length ∧ ps.length = j ∧ ps.map (·.1) = R.take j ∧ Below w.heap.size w wr ∧ wr.heap[w.heap.size]? = some o ∧
    wr.heap[w.heap.size + 1]? = some (.cells #[.int .u8 0, .int .i64 0, .string ⟨#[]⟩, .slice none 0 0, .slice none 0 0] 25) ∧ wr.ownsRow (w.heap.size + 2) 25 5 v ps.length (flat ps) ∧
    ∀ p ∈ ps, FirmS (fun q => B ≤ q ∧ (q < w.heap.size + 2 ∨ v.ownBlock = some q)) wr p.1 p.2

theorem RowRel.step {B : Nat} {w : World} {o : Obj} {R : List Tm} {v i' : Value} {wr w4 w5 : World} {j g cap n' : Nat} {ps : List (Tm × Hd)} {y : Tm} {hy : Hd} {ob : Obj} {L : Nat} (hRl : R.length = L) (hRy : R[j]? = some y) (hlt : j < L) (hpl : ps.length = j) (hmap : ps.map (·.1) = R.take j)
    (hbel : Below w.heap.size w wr) (hbx : wr.heap[w.heap.size]? = some o) (hbr : wr.heap[w.heap.size + 1]? = some (.cells #[.int .u8 0, .int .i64 0, .string ⟨#[]⟩, .slice none 0 0, .slice none 0 0] 25)) (hown : wr.ownsRow (w.heap.size + 2) 25 5 v ps.length (flat ps))
    (hf : ∀ p ∈ ps, FirmS (fun q => B ≤ q ∧ (q < w.heap.size + 2 ∨ v.ownBlock = some q)) wr p.1 p.2) (hb4 : Below wr.heap.size wr w4) (hfy : FirmS (fun q => B ≤ q ∧ q < wr.heap.size) w4 y hy) (hBw : B ≤ w.heap.size) (h2 : w.heap.size + 2 ≤ wr.heap.size)
    (hn' : n' = ps.length + 1) (hown5 : w5.ownsRow (w.heap.size + 2) 25 5 (.slice (some ⟨g, 0, none⟩) n' cap) n' (flat ps ++ (y.vals hy).toList)) (hgrow : (w4.alloc ob).grownBy w5 v.ownBlock) (hat : v.ownBlock = some g ∨ g = w4.heap.size + 1) (hi : i' = .int .i64 ((j + 1 : Nat) : Int)) :
    RowRel B w o R (.slice (some ⟨g, 0, none⟩) n' cap) i' w5 := by
  subst hn'
  have h6 := row_below hb4 hown hgrow h2
  have h1 := hb4.alloc hb4.size ob
  have hz1 : wr.heap.size ≤ w4.heap.size := hb4.size
  have hz5 : w4.heap.size + 1 ≤ w5.heap.size := by have := hgrow.size; simpa using this
  refine ⟨j + 1, ps ++ [(y, hy)], hi, by omega, by simp [hpl], ?_, hbel.trans (h6.mono (by omega)), (h6.block _ (by omega)).trans hbx, (h6.block _ (by omega)).trans hbr, by rw [flat_snoc, List.length_append]; exact hown5, ?_⟩
  · rw [List.map_append, hmap, List.take_add_one, hRy]; rfl
  · intro p hp w' hr
    rcases List.mem_append.1 hp with hp | hp
    · refine hf p hp w' ⟨hr.os.trans (h6.os), hr.tape.trans h6.tape, hr.output.trans h6.output, Nat.le_trans h6.size hr.size, fun k hk hn => ?_⟩
      have hn5 : w5.heap[k]? = wr.heap[k]? := by
        rw [hgrow.block k (by simp; omega) (fun he => hn ⟨by have := own_low hown he.symm; omega, Or.inr he.symm⟩), h1.block k hk]
      rw [← hn5]
      refine hr.block k (Nat.lt_of_lt_of_le hk h6.size) ?_
      rintro ⟨hq1, hq2 | hq2⟩
      · exact hn ⟨hq1, Or.inl hq2⟩
      · have hkg : g = k := by simpa [Value.ownBlock] using hq2
        subst hkg
        rcases hat with hat | hat
        · exact hn ⟨hq1, Or.inr hat⟩
        · omega
    · simp at hp
      subst hp
      refine hfy w' ⟨hr.os.trans (hgrow.os), hr.tape.trans hgrow.tape, hr.output.trans hgrow.output, Nat.le_trans (by omega) hr.size, fun k hk hn => ?_⟩
      have hn5 : w5.heap[k]? = w4.heap[k]? := by
        rw [hgrow.block k (by simp; omega) (fun he => by have := own_low hown he.symm; exact hn ⟨by omega, by omega⟩)]
        exact (below_one w4 ob).block k hk
      rw [← hn5]
      refine hr.block k (by omega) ?_
      rintro ⟨hq1, hq2 | hq2⟩
      · exact hn ⟨hq1, by omega⟩
      · have hkg : g = k := by simpa [Value.ownBlock] using hq2
        subst hkg
        rcases hat with hat | hat
        · have := own_low hown hat
          exact hn ⟨hq1, by omega⟩
        · omega
end Trm

set_option maxRecDepth 100000 in
set_option maxHeartbeats 1000000 in
theorem with_any (k n : Int) (s : ByteArray) (lo to to' : Option Addr) (ll lc tl tc tl' tc' : Nat) (w : World) :
    Calls Try.prog 90 #[.agg #[.int .u8 k, .int .i64 n, .string s, .slice lo ll lc, .slice to tl tc], .slice to' tl' tc'] w fun e w' => e = .returned (.agg #[.int .u8 k, .int .i64 n, .string s, .slice lo ll lc, .slice to' tl' tc']) ∧ Below w.heap.size w w' := by
  go_enter Try.func90, Try.ntmps90
  go_wp2_with fail
  exact bodyPost_ret (v := .agg #[.int .u8 k, .int .i64 n, .string s, .slice lo ll lc, .slice to' tl' tc']) (by simp [results, Try.results90, go_sem]) rfl ⟨rfl, below_two _ _ _⟩
end Go.Proofs.Ytijdlihodpodjaa

/-
  battenref04.Lift, of a term that may be.
-/
namespace Go.Proofs.Ytijdlihodpodjaa
open Go.RowKit Go.Shelf Lvl Trm

namespace Trm
theorem put_lift_var (fr by_ n u : Int) (hfr : 0 ≤ fr) : (tV n).put (gLift fr by_) u = tV (if fr + u ≤ n then n + by_ else n) := by
  unfold tV
  rw [Tm.put]
  by_cases h1 : u ≤ n
  · rw [if_pos ⟨rfl, h1⟩]
    unfold gLift ren tV
    congr 1
    by_cases h2 : fr + u ≤ n
    · rw [if_pos h2]; show (if n - u < fr then n - u else n - u + by_) + u = _; rw [if_neg (by omega)]; omega
    · rw [if_neg h2]; show (if n - u < fr then n - u else n - u + by_) + u = _; rw [if_pos (by omega)]; omega
  · rw [if_neg (fun hh => h1 hh.2), putL, if_neg (by omega)]
end Trm

set_option maxRecDepth 100000 in
set_option maxHeartbeats 8000000 in
theorem RefLift_any (by_ : Int) (hb0 : -1073741824 ≤ by_) (hb1 : by_ ≤ 1073741824) (fr : Int) (hfr : 0 ≤ fr) (hfr1 : fr ≤ 1073741824) (B : Nat) (t : Tm) : ∀ (h : Hd) (d u F : Int) (w : World), OkMay t d → 0 ≤ u → u ≤ d → F = fr + u → t.In B w h → B ≤ w.heap.size →
    Calls Try.prog 86 #[t.val h, .int .i64 F, .int .i64 by_] w (RefPost B w (t.put (gLift fr by_) u)) := by
  induction t using Tm.ind with
  | h t ih =>
    intro h d u F w hok hu0 hud hF hin hBw
    have HIN := Lib.hid hin
    have HIH := Lib.hid ih
    have HOK := Lib.hid hok
    have hd1 := hok.node.2
    have hts := hin.fit.ts
    have hfew := (node_few hok.node.1).1
    have hf3 := (node_few hok.node.1).2.1
    by_cases h2 : t.k = 2
    · have hv := node_var hok.node.1 h2
      have hnum := node_num hok.node.1
      obtain ⟨n, rfl⟩ : ∃ n, t = tV n := ⟨_, hv⟩
      change 0 ≤ n ∧ n ≤ 1048576 at hnum
      rw [put_lift_var fr by_ n u hfr]
      clear HIH HOK HIN ih hok hin hv h2 hfew hf3 hts
      show Calls Try.prog 86 #[.agg #[.int .u8 2, .int .i64 n, .string ⟨#[]⟩, .slice h.lo 0 h.lc, .slice h.to 0 h.tc], .int .i64 F, .int .i64 by_] w _
      by_cases hge : fr + u ≤ n
      · rw [if_pos hge]
        have hw1 : IntKind.i64.wrap (n + by_) = n + by_ := IntWalk.i64_in _ (by omega)
        have hm : -9223372036854775808 ≤ n + by_ ∧ n + by_ ≤ 9223372036854775807 := by omega
        have d1 : decide (F ≤ n) = true := by simp; omega
        clear hge hF
        go_enter Try.func86, Try.ntmps86
        go_wp2_with fail
        exact bodyPost_ret (v := .agg #[.int .u8 2, .int .i64 (n + by_), .string ⟨#[]⟩, .slice h.lo 0 h.lc, .slice h.to 0 h.tc]) (by simp [results, Try.results86, go_sem]) rfl ⟨h, rfl, firm_leaf (by decide) (by decide) hm.1 hm.2 (by decide), below_two _ _ _⟩
      · rw [if_neg hge]
        have hm : -9223372036854775808 ≤ n ∧ n ≤ 9223372036854775807 := by omega
        have d1 : decide (F ≤ n) = false := by simp; omega
        clear hge hF
        go_enter Try.func86, Try.ntmps86
        go_wp2_with fail
        exact bodyPost_ret (v := .agg #[.int .u8 2, .int .i64 (n), .string ⟨#[]⟩, .slice h.lo 0 h.lc, .slice h.to 0 h.tc]) (by simp [results, Try.results86, go_sem]) rfl ⟨h, rfl, firm_leaf (by decide) (by decide) hm.1 hm.2 (by decide), below_two _ _ _⟩
    · have hk2 : (t.k == 2) = false := by simpa using h2
      have HF0 := Lib.hid hF
      clear hF
      obtain ⟨Y, hY⟩ : ∃ Y, Y = t.put (gLift fr by_) u := ⟨_, rfl⟩
      obtain ⟨R, hR⟩ : ∃ R, R = putL (gLift fr by_) t.k t.ts 0 u := ⟨_, rfl⟩
      have HYR : Hid (Y = .mk t.k t.n t.s t.ls R) := Lib.hid (by rw [hY, hR]; exact put_node _ _ h2)
      have hRl : R.length = t.ts.length := by rw [hR]; exact putL_length _ _ _ _ _
      have HRJ : Hid (∀ j (hj : j < t.ts.length), R[j]? = some (t.ts[j].put (gLift fr by_) (under t.k j u))) := Lib.hid (fun j hj => by
        subst hR
        rw [List.getElem?_eq_getElem (by rw [putL_length]; exact hj), putL_at _ _ _ _ _ (by omega) j hj, Nat.zero_add])
      rw [← hY]
      have HRL := Lib.hid hRl
      clear hY hR hRl ih hok hin
      obtain ⟨i0, hi, hz0, hz1, hz2⟩ := info_parts infoT
      unfold Tm.val Tm.vals
      go_enter Try.func86, Try.ntmps86
      go_wp2_with fail
      go_loopw [7, 8] (fun v i wr => RowRel B w (t.box h) R v i wr) (fun _ i _ => t.ts.length - (intOf i).toNat)
      case atStart => exact ⟨0, [], rfl, by omega, rfl, rfl, below_two _ _ _, new1of2 _ _ _, new2 _ _ _, ⟨rfl, Or.inl ⟨rfl, rfl⟩⟩, fun p hp => by simp at hp⟩
      case round =>
        obtain ⟨j, ps, rfl, hj, hpl, hmap, hbel, hbx, hbr, hown, hf⟩ := hrel
        have HMAP := Lib.hid hmap
        have HBEL := Lib.hid hbel
        have HBX := Lib.hid hbx
        have HBR := Lib.hid hbr
        have HOW := Lib.hid hown
        have HF := Lib.hid hf
        have HPL := Lib.hid hpl
        have hzr := hbel.size
        have hlt1 : w.heap.size + 1 < wr.heap.size := (Array.getElem?_eq_some_iff.1 hbr).1
        rw [HRL.out] at hj
        clear hmap hbel hbr hown hf
        obtain ⟨c0, c1, c2, c3, c4⟩ := Tm.cells hbx
        by_cases hlt : j < t.ts.length
        · obtain ⟨b, off, hao, hat⟩ := HIN.out.kid j hlt
          obtain ⟨hb, hd', hcx, hin'⟩ := hat.below (HBEL.out.mono hBw)
          rw [hao] at c4
          have HAO := Lib.hid hao
          have HI := Lib.hid hin'
          have hun := bnd_under (K := t.k) (i := j) u
          have hul := under_le t.k j u
          obtain ⟨F', hF'⟩ : ∃ F', F' = fr + under t.k j u := ⟨_, rfl⟩
          have HX := Lib.hid (fun (W : World) (hW : Below wr.heap.size wr W) => HIH.out _ (List.getElem_mem hlt) hd' (d + 1) (under t.k j u) F' W (HOK.out.down _ (List.getElem_mem hlt)) (by omega) (by omega) hF' (Tm.In.below (hW.mono (by omega)) _ _ HI.out) (by have := hW.size; omega))
          have HB := Lib.hid (fun (W : World) => RefBinds_any t.k t.n t.s h.lo (some ⟨b, off, none⟩) t.ls.length h.lc t.ts.length h.tc j W)
          have hwr : IntKind.i64.wrap (F + bnd t.k j) = F' := by rw [HF0.out, hF']; rw [show fr + u + bnd t.k j = fr + under t.k j u by omega]; exact IntWalk.i64_in _ (by omega)
          have hwr2 : IntKind.i64.wrap F' = F' := IntWalk.i64_in _ (by omega)
          clear hF'

          have HCX := Lib.hid hcx
          obtain ⟨k0, k1, k2, k3, k4⟩ := hcx
          have HRX := Lib.hid (HRJ.out j hlt)
          clear hat hin' hao hbx hpl
          generalize hyq : t.ts[j].put (gLift fr by_) (under t.k j u) = y at HX HRX
          generalize t.ts[j] = x at k0 k1 k2 k3 k4 HX HI HCX hyq
          unfold Tm.val Tm.vals at HX
          clear hyq
          have hbz : b < wr.heap.size := by omega
          have hbz2 : b < w.heap.size + 2 := by omega
          have five_pos : Hid (0 < 5) := Lib.hid (by decide)
          have hpm : ps.length ≤ 1000000 := by have := HPL.out; omega
          have hq1 : Hid (ps.length + 1 ≤ maxLen) := Lib.hid (by unfold maxLen; omega)
          have hq2 : Hid ((ps.length + 1) * 80 ≤ 140737488355328) := Lib.hid (by omega)
          have hq3 : Hid (w.heap.size + 2 ≤ wr.heap.size) := Lib.hid (by omega)
          have hone : ∀ hy : Hd, ∀ q ∈ (y.vals hy).toList, q.oneCell' = true := fun hy q hq => by
            simp [Tm.vals] at hq
            rcases hq with rfl | rfl | rfl | rfl | rfl <;> rfl
          have HF3 := Lib.hid hf3
          clear hun hul hfew hf3 hts hd1 hu0 hud hb0 hb1 hfr hfr1
          go_wp2_with fail
          go_region_held3 (fun w' => w'.cell? ⟨w.heap.size, 0, none⟩ = some (.int .u8 t.k) ∧ w'.cell? ⟨w.heap.size, 1, none⟩ = some (.int .i64 t.n) ∧ w'.cell? ⟨w.heap.size, 2, none⟩ = some (.string t.s) ∧ w'.cell? ⟨w.heap.size, 3, none⟩ = some (.slice h.lo t.ls.length h.lc) ∧ w'.cell? ⟨w.heap.size, 4, none⟩ = some (.slice (some ⟨b, off, none⟩) t.ts.length h.tc) ∧ w'.cell? ⟨b, off + j * 5, none⟩ = some (.int .u8 x.k) ∧ w'.cell? ⟨b, off + j * 5 + 1, none⟩ = some (.int .i64 x.n) ∧ w'.cell? ⟨b, off + j * 5 + 2, none⟩ = some (.string x.s) ∧ w'.cell? ⟨b, off + j * 5 + 3, none⟩ = some (.slice hd'.lo x.ls.length hd'.lc) ∧ w'.cell? ⟨b, off + j * 5 + 4, none⟩ = some (.slice hd'.to x.ts.length hd'.tc))
            (first
              | go_keep
              | (have hb6 := row_below HB4.out HOW.out hgrow hq3.out
                 obtain ⟨c0, c1, c2, c3, c4⟩ := five_cells (show w5.heap[w.heap.size]? = some (.cells #[_, _, _, _, _] 25) from (hb6.block _ (Nat.lt_succ_of_lt (Nat.lt_succ_self _))).trans HBX.out)
                 rw [HAO.out] at c4
                 obtain ⟨k0, k1, k2, k3, k4⟩ := HCX.out.below hb6 hbz2
                 exact ⟨c0, c1, c2, c3, c4, k0, k1, k2, k3, k4⟩))
            (first
              | (go_at_call 79; (with_reducible refine (HB.out _).mono ?_); rintro e w3 ⟨rfl, bw⟩; have HB3 := Lib.hid (show Below wr.heap.size wr w3 from Lvl.undrew bw); clear bw; obtain ⟨c0, c1, c2, c3, c4⟩ := Tm.cells (Lvl.keep HB3.out HBX.out); rw [HAO.out] at c4; obtain ⟨k0, k1, k2, k3, k4⟩ := HCX.out.below HB3.out hbz)
              | (go_at_call 86; (with_reducible refine (HX.out _ HB3.out).mono ?_); rintro e w4 ⟨hy, rfl, fY, bw⟩; have HB4 := Lib.hid (Trm.go HB3.out bw); have HFY := Lib.hid (show FirmS (fun q => B ≤ q ∧ q < wr.heap.size) w4 y hy from fY.less (fun q _ hq => ⟨hq.1, Nat.lt_of_lt_of_le hq.2 HB3.out.size⟩)); clear bw fY; have hz4 := HB4.out.size; obtain ⟨c0, c1, c2, c3, c4⟩ := Tm.cells (Lvl.keep HB4.out HBX.out); rw [HAO.out] at c4; obtain ⟨k0, k1, k2, k3, k4⟩ := HCX.out.below HB4.out hbz; dsimp only [Tm.val, Tm.vals])
              | ((refine step_append_lies _ (by rfl) _ _ _ (by rfl) (w.heap.size + 2) 25 i0 _ 5 80 Try.underlying23 hi hz0 hz1 hz2 rfl five_pos.out _ _ _ (by rfl) (own_below HOW.out (HB4.out.alloc HB4.out.size (.cells #[.int .u8 y.k, .int .i64 y.n, .string y.s, .slice hy.lo y.ls.length hy.lc, .slice hy.to y.ts.length hy.tc] 25))) ⟨w4.heap.size, 0, none⟩ 1 1 (y.vals hy).toList (by rfl) (by rfl) (World.news_of_block (cs := y.vals hy) (t := 25) (fr := (0, 0)) (World.alloc_heap_new w4 _)) (hone _) Nat.one_pos hq1.out hq2.out (by rw [World.size_alloc]; exact Nat.le_trans hq3.out (Nat.le_succ_of_le hz4)) (w4.heap.size + 1) (World.size_alloc _ _) ?_); intro g cap w5 hown5 hgrow hat5 hlt5))
          have hf3 := HF3.out
          go_wp2_with fail
          go_roundw
          case rel => exact RowRel.step HRL.out HRX.out hlt HPL.out HMAP.out HBEL.out HBX.out HBR.out HOW.out HF.out HB4.out HFY.out (by omega) (by omega) rfl hown5 hgrow hat5 (by clear hwr hwr2; go_num)
          case measure => clear hwr hwr2; simp [intOf]; omega
        · have hje : j = t.ts.length := by omega
          have hfit := HIN.out.fit
          have HLR := Lib.hid (LRow.low HIN.out.levels (Tm.In_iff.1 HIN.out).2.2.1 (HBEL.out.mono hBw))
          obtain ⟨to, tc, rfl, hfn⟩ := firm_node (P := fun q => B ≤ q ∧ q < w.heap.size + 2) (Q := fun q => B ≤ q ∧ (q < w.heap.size + 2 ∨ u7.ownBlock = some q)) (B := B) (k := t.k) (n := t.n) (s := t.s) (ls := t.ls) (lc := h.lc) HOW.out hfit.k0 hfit.k1 hfit.n0 hfit.n1 hfit.s hfit.ls HLR.out (Tm.In_iff.1 HIN.out).2.2.1 (by omega) (fun q hq => hq.1) (fun q hq => by have := hq.2; omega) (fun q hq => ⟨hq.1, Or.inl (by have := hq.2; omega)⟩) HF.out (by have := HPL.out; omega)
          have hps : ps.map (·.1) = R := by rw [HMAP.out]; exact List.take_of_length_le (by have := HRL.out; omega)
          rw [hps, ← HYR.out] at hfn
          have HFN := Lib.hid hfn
          have hyl : ps.length = Y.ts.length := by rw [HYR.out]; show _ = R.length; rw [HRL.out, HPL.out, hje]
          rw [hyl]
          have HYE : Hid (Value.agg #[.int .u8 t.k, .int .i64 t.n, .string t.s, .slice h.lo t.ls.length h.lc, .slice to Y.ts.length tc] = Y.val ⟨h.lo, h.lc, to, tc⟩) := Lib.hid (by rw [HYR.out]; rfl)
          clear hfit hfn hps hpl hyl
          go_wp2_with fail
          refine (with_any _ _ _ _ _ _ _ _ _ _ _ _ _).mono ?_
          rintro e w6 ⟨rfl, b6⟩
          have HB6 := Lib.hid (Trm.go HBEL.out b6)
          have HR6 := Lib.hid (Lvl.keep b6 HBR.out)
          have HF6 := Lib.hid (HFN.out.step (RanS.of_below b6))
          obtain ⟨a0, a1, a2, a3, a4⟩ := five_cells HR6.out
          obtain ⟨f0, f1, f2, f3, f4⟩ := five_free HR6.out
          have hz6 := b6.size
          clear b6 c0 c1 c2 c3 c4
          go_wp2_with fail
          have h5 := putT_self HR6.out (.int .u8 t.k) (.int .i64 t.n) (.string t.s) (.slice h.lo t.ls.length h.lc) (.slice to Y.ts.length tc)
          have b5 := putT_below HB6.out (by omega : w.heap.size ≤ w.heap.size + 1) (.int .u8 t.k) (.int .i64 t.n) (.string t.s) (.slice h.lo t.ls.length h.lc) (.slice to Y.ts.length tc)
          have r5 := putT_ran w6 (w.heap.size + 1) (.int .u8 t.k) (.int .i64 t.n) (.string t.s) (.slice h.lo t.ls.length h.lc) (.slice to Y.ts.length tc)
          unfold putT at h5 b5 r5
          generalize hW : ((((w6.setCell ⟨w.heap.size + 1, 0, none⟩ (.int .u8 t.k)).setCell ⟨w.heap.size + 1, 1, none⟩ (.int .i64 t.n)).setCell ⟨w.heap.size + 1, 2, none⟩ (.string t.s)).setCell ⟨w.heap.size + 1, 3, none⟩ (.slice h.lo t.ls.length h.lc)).setCell ⟨w.heap.size + 1, 4, none⟩ (.slice to Y.ts.length tc) = W4 at h5 b5 r5 ⊢
          obtain ⟨e0, e1, e2, e3, e4⟩ := five_cells h5
          clear hW
          refine bodyPost_ret (v := .agg #[.int .u8 t.k, .int .i64 t.n, .string t.s, .slice h.lo t.ls.length h.lc, .slice to Y.ts.length tc]) (by simp [results, Try.results86, go_sem, e0, e1, e2, e3, e4]) rfl ⟨_, by rw [HYE.out], (HF6.out.step (RanS.of_ran r5 ⟨by omega, by omega⟩)).less (fun q _ hq => ⟨hq.1, by have := hq.2; omega⟩), b5⟩
end Go.Proofs.Ytijdlihodpodjaa

/-
  battenlaw04.between, lifts.
-/
namespace Go.Proofs.Ytijdlihodpodjaa
open Go.RowKit Go.Shelf Lvl Trm

namespace Trm
def isBt (fr to : Int) (p : Int × Int) : Bool := decide (fr ≤ p.1 ∧ p.1 < to)
def BtRel (w : World) (o : Obj) (k : Int) (ts : List Tm) (u fr to : Int) (G : Bool) (i : Value) (wr : World) : Prop :=
  ∃ j : Nat, i = .int .i64 j ∧ j ≤ ts.length ∧ (vpsL k (ts.drop j) j u).any (isBt fr to) = G ∧ Kept w wr o
theorem vps_tV (n u : Int) : (tV n).vps u = if u ≤ n then [(n - u, u)] else [] := by
  unfold tV
  rw [Tm.vps, vpsL, List.append_nil]
  by_cases h : u ≤ n
  · rw [if_pos ⟨rfl, h⟩, if_pos h]
  · rw [if_neg (fun hh => h hh.2), if_neg h]
theorem bt_tV {fr to n u : Int} (hfr : 0 ≤ fr) : ((tV n).vps u).any (isBt fr to) = (decide (fr + u ≤ n) && decide (n < to + u)) := by
  rw [vps_tV]
  by_cases h : u ≤ n
  · rw [if_pos h]
    simp only [List.any_cons, List.any_nil, Bool.or_false, isBt]
    rw [Bool.eq_iff_iff]
    simp
    omega
  · rw [if_neg h]
    simp
    omega
theorem vps_node {t : Tm} (h : t.k ≠ 2) (u : Int) : t.vps u = vpsL t.k t.ts 0 u := by
  cases t with
  | mk k n s ls ts => rw [Tm.vps, if_neg (fun hh => h hh.1)]; rfl
end Trm

set_option maxRecDepth 100000 in
set_option maxHeartbeats 4000000 in
theorem between_any (fr to : Int) (hf0 : 0 ≤ fr) (hf1 : fr ≤ 1073741824) (ht0 : 0 ≤ to) (ht1 : to ≤ 2147483648) (t : Tm) : ∀ (h : Hd) (d u F T : Int) (w : World), OkMay t d → 0 ≤ u → u ≤ d → F = fr + u → T = to + u → t.In w.heap.size w h →
    Calls Try.prog 85 #[t.val h, .int .i64 F, .int .i64 T] w fun e w' => e = .returned (.bool ((t.vps u).any (isBt fr to))) ∧ Below w.heap.size w w' := by
  induction t using Tm.ind with
  | h t ih =>
    intro h d u F T w hok hu0 hud hF hT hin
    have hts := hin.fit.ts
    have hd1 := hok.node.2
    have hfew := (node_few hok.node.1).1
    have hf3 := (node_few hok.node.1).2.1
    have HIN := Lib.hid hin
    have HIH := Lib.hid ih
    have HOK := Lib.hid hok
    by_cases h2 : t.k = 2
    · have hv := node_var hok.node.1 h2
      have hnum := node_num hok.node.1
      obtain ⟨n, rfl⟩ : ∃ n, t = tV n := ⟨_, hv⟩
      rw [bt_tV hf0]
      rw [show fr + u = F from hF.symm, show to + u = T from hT.symm]
      clear HIH HOK HIN ih hok hin hv h2 hfew hf3 hts hF hT
      show Calls Try.prog 85 #[.agg #[.int .u8 2, .int .i64 n, .string ⟨#[]⟩, .slice h.lo 0 h.lc, .slice h.to 0 h.tc], .int .i64 F, .int .i64 T] w _
      cases d1 : decide (F ≤ n)
      · go_enter Try.func85, Try.ntmps85
        go_wp2_with fail
        go_ret
        exact ⟨rfl, below_one _ _⟩
      · go_enter Try.func85, Try.ntmps85
        go_wp2_with fail
        go_ret
        exact ⟨by simp, below_one _ _⟩
    · have hk2 : (t.k == 2) = false := by simpa using h2
      obtain ⟨G, hG⟩ : ∃ G, G = (t.vps u).any (isBt fr to) := ⟨_, rfl⟩
      rw [← hG]
      have HG : Hid ((vpsL t.k (t.ts.drop 0) 0 u).any (isBt fr to) = G) := Lib.hid (by rw [hG, vps_node h2]; rfl)
      have HF0 := Lib.hid hF
      have HT0 := Lib.hid hT
      clear hG hin ih hok hF hT
      unfold Tm.val Tm.vals
      go_enter Try.func85, Try.ntmps85
      go_wp2_with fail
      go_loopw [7] (fun i wr => BtRel w (t.box h) t.k t.ts u fr to G i wr) (fun i _ => t.ts.length - (intOf i).toNat)
      case atStart => exact ⟨0, rfl, by omega, HG.out, Kept.start _ _⟩
      case round =>
        obtain ⟨j, rfl, hj, hGk, hkept⟩ := hrel
        have HK := Lib.hid hkept
        have HGk := Lib.hid hGk
        clear hkept hGk
        obtain ⟨c0, c1, c2, c3, c4⟩ := Tm.cells HK.out.box
        by_cases hlt : j < t.ts.length
        · obtain ⟨b, off, hao, hat⟩ := HIN.out.kid j hlt
          obtain ⟨hb, hd', hcx, hin'⟩ := hat.below HK.out.bel
          rw [hao] at c4
          have hbw := HK.out.bel.size
          have HI := Lib.hid (Tm.In.mono HK.out.bel.size _ _ hin')
          have hun := bnd_under (K := t.k) (i := j) u
          have hul := under_le t.k j u
          have HAO := Lib.hid hao
          obtain ⟨F', hF'⟩ : ∃ F', F' = fr + under t.k j u := ⟨_, rfl⟩
          obtain ⟨T', hT'⟩ : ∃ T', T' = to + under t.k j u := ⟨_, rfl⟩
          have HX := Lib.hid (fun (W : World) (hW : Below wr.heap.size wr W) => HIH.out _ (List.getElem_mem hlt) hd' (d + 1) (under t.k j u) F' T' W (HOK.out.down _ (List.getElem_mem hlt)) (by omega) (by omega) hF' hT' (carry HI.out hW))
          have HBAD : Hid ((t.ts[j].vps (under t.k j u)).any (isBt fr to) = true → G = true) := Lib.hid (fun hh => by
            have h0 := HGk.out
            rw [drop_get hlt, vpsL, List.any_append, hh, Bool.true_or] at h0
            exact h0.symm)
          have HNX : Hid ((t.ts[j].vps (under t.k j u)).any (isBt fr to) = false → (vpsL t.k (t.ts.drop (j + 1)) (j + 1) u).any (isBt fr to) = G) := Lib.hid (fun hh => by
            have h0 := HGk.out
            rw [drop_get hlt, vpsL, List.any_append, hh, Bool.false_or] at h0
            by_cases hl : (j : Int) = kids t.k - 1
            · have hn : t.ts.drop (j + 1) = [] := List.drop_eq_nil_of_le (by omega)
              rw [hn, vpsL] at h0 ⊢
              exact h0
            · have hun2 : under t.k j u = u := by unfold under; rw [if_neg (fun hh => hl hh.2)]
              rw [hun2] at h0
              exact h0)
          have HB := Lib.hid (fun (W : World) => RefBinds_any t.k t.n t.s h.lo (some ⟨b, off, none⟩) t.ls.length h.lc t.ts.length h.tc j W)
          have hwr : IntKind.i64.wrap (F + bnd t.k j) = F' := by rw [HF0.out, hF']; rw [show fr + u + bnd t.k j = fr + under t.k j u by omega]; exact IntWalk.i64_in _ (by omega)
          have hwr2 : IntKind.i64.wrap (T + bnd t.k j) = T' := by rw [HT0.out, hT']; rw [show to + u + bnd t.k j = to + under t.k j u by omega]; exact IntWalk.i64_in _ (by omega)
          have HCX := Lib.hid hcx
          clear hat hin' hao hcx hF' hT' hun hul
          generalize (t.ts[j].vps (under t.k j u)).any (isBt fr to) = X at HX HNX HBAD
          generalize t.ts[j] = x at HX HI HCX
          unfold Tm.val Tm.vals at HX
          have hbz : b < wr.heap.size := by omega
          go_wp2_with fail
          refine (HB.out _).mono ?_
          rintro e w3 ⟨rfl, b3⟩
          have HK3 := Lib.hid (HK.out.step b3)
          have HB3 := Lib.hid b3
          clear b3 c0 c1 c2 c3 c4
          obtain ⟨c0, c1, c2, c3, c4⟩ := Tm.cells HK3.out.box
          rw [HAO.out] at c4
          obtain ⟨k0, k1, k2, k3, k4⟩ := HCX.out.below HB3.out hbz
          cases X
          · have HN := Lib.hid (HNX.out rfl)
            clear HBAD HNX
            go_wp2_with fail
            refine (HX.out _ HB3.out).mono ?_
            rintro e w4 ⟨rfl, b4⟩
            have HK4 := Lib.hid (HK3.out.step b4)
            clear b4 c0 c1 c2 c3 c4 k0 k1 k2 k3 k4 hwr hwr2
            go_wp2_with fail
            go_roundw
            case rel => exact ⟨j + 1, by go_num, by omega, HN.out, HK4.out⟩
            case measure => simp [intOf]; omega
          · have HE := Lib.hid (HBAD.out rfl)
            clear HBAD HNX
            go_wp2_with fail
            refine (HX.out _ HB3.out).mono ?_
            rintro e w4 ⟨rfl, b4⟩
            have HK4 := Lib.hid (HK3.out.step b4)
            clear b4 c0 c1 c2 c3 c4 k0 k1 k2 k3 k4 hwr hwr2
            go_wp2_with fail
            go_ret
            exact ⟨ret_bool HE.out.symm, HK4.out.bel⟩
        · have HE : Hid (G = false) := Lib.hid (by
            have h0 := HGk.out
            rw [List.drop_eq_nil_of_le (by omega), vpsL] at h0
            exact h0.symm)
          go_wp2_with fail
          go_ret
          exact ⟨ret_bool HE.out.symm, HK.out.bel⟩
end Go.Proofs.Ytijdlihodpodjaa
