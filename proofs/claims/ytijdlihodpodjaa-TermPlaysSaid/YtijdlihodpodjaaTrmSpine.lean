/-
  term.Spine.
-/
import Derived.Test.YtijdlihodpodjaaTrmRev
import Derived.Test.YtijdlihodpodjaaTrmVars
import Derived.OwnWalk
import Derived.Deep.AppendLies
namespace Go.Proofs.Ytijdlihodpodjaa
open Go.RowKit Go.Shelf Lvl Trm

/-- A term, applied. -/
def Trm.appl (f : Tm) (l : List Tm) : Tm := l.foldl (fun f x => t2 4 f x) f
theorem Trm.appl_cons (f x : Tm) (l : List Tm) : appl f (x :: l) = appl (t2 4 f x) l := rfl

theorem Trm.node_app {t : Tm} (h : t.node = true) (hk : t.k = 4) : ∃ f x, t = t2 4 f x := by
  unfold Tm.node at h
  simp only [hk, Bool.and_eq_true, decide_eq_true_eq] at h
  obtain ⟨⟨⟨⟨⟨_, hl⟩, _⟩, hs⟩, hn⟩, hv⟩ := h
  simp [kids] at hl hs hn hv
  obtain ⟨k, n, s, ls, ts⟩ := t
  simp only [Tm.k, Tm.ts, Tm.s, Tm.n, Tm.ls] at hk hl hs hn hv
  obtain ⟨f, x, rfl⟩ : ∃ f x, ts = [f, x] := by
    match ts, hl with
    | [f, x], _ => exact ⟨f, x, rfl⟩
    | [], hl => simp at hl
    | [_], hl => simp at hl
    | _ :: _ :: _ :: _, hl => simp at hl; omega
  refine ⟨f, x, ?_⟩
  subst hk hn hv
  have hs' : s = no := by
    first
      | exact hs
      | (cases s with
         | mk d => simp [ByteArray.size] at hs; subst hs; rfl)
  rw [hs']; rfl

theorem Trm.infoT : (Try.prog.info? 25).map (fun i => (i.zero, i.size, i.bytes)) = some (some (.agg #[.int .u8 0, .int .i64 0, .string ⟨#[]⟩, .slice none 0 0, .slice none 0 0]), 5, 80) := by kernel_rfl

def Trm.flat (ps : List (Tm × Hd)) : List Value := ps.flatMap fun p => (p.1.vals p.2).toList
theorem Trm.flat_len (ps : List (Tm × Hd)) : (flat ps).length = ps.length * 5 := by
  induction ps with
  | nil => rfl
  | cons p r ih => simp only [flat, List.flatMap_cons, List.length_append, List.length_cons] at ih ⊢; rw [ih]; simp [Tm.vals]; omega
theorem Trm.flat_at (ps : List (Tm × Hd)) : ∀ k (hk : k < ps.length) q, q < 5 → (flat ps)[k * 5 + q]? = (ps[k].1.vals ps[k].2)[q]? := by
  induction ps with
  | nil => intro k hk; simp at hk
  | cons p r ih =>
    intro k hk q hq
    have h5 : (p.1.vals p.2).toList.length = 5 := by simp [Tm.vals]
    match k, hk with
    | 0, _ =>
      show ((p.1.vals p.2).toList ++ flat r)[0 * 5 + q]? = _
      rw [List.getElem?_append_left (by omega)]
      simp
    | k + 1, hk =>
      show ((p.1.vals p.2).toList ++ flat r)[(k + 1) * 5 + q]? = _
      rw [List.getElem?_append_right (by omega), h5, show (k + 1) * 5 + q - 5 = k * 5 + q by omega]
      exact ih k (by simpa using hk) q hq
theorem Trm.flat_snoc (ps : List (Tm × Hd)) (p : Tm × Hd) : flat (ps ++ [p]) = flat ps ++ (p.1.vals p.2).toList := by simp [flat]

/-- A row of the call's own is a block of terms. -/
theorem Trm.block_of_own {w : World} {base g n cap : Nat} {ps : List (Tm × Hd)} (h : w.ownsRow base 25 5 (.slice (some ⟨g, 0, none⟩) n cap) ps.length (flat ps)) : base ≤ g ∧ n = ps.length ∧ TBlock w g (cap * 5) ps := by
  obtain ⟨hl, h | ⟨g', cap', cur, he, hb, hg, hn, hm, hs, ht⟩⟩ := h
  · cases h.1
  · cases he
    refine ⟨hb, rfl, ⟨cur, hg, hs, by omega, fun k hk q hq => ?_⟩⟩
    rw [← flat_at ps k hk q hq, ← ht, List.getElem?_take_of_lt (by omega), Array.getElem?_toList]

theorem Trm.below_own {w w' : World} {base : Nat} {e size n : Nat} {v : Value} {xs : List Value} (h : w.ownsRow base e size v n xs) (hg : w.grownBy w' v.ownBlock) (hb : base ≤ w.heap.size) : Below base w w' := by
  refine Below.grown (Below.refl _ _) hg hb fun k hk => ?_
  obtain ⟨_, h | ⟨g, cap, cur, rfl, hb2, _⟩⟩ := h
  · rw [h.1] at hk; simp [Value.ownBlock] at hk
  · simp [Value.ownBlock] at hk; omega
theorem Trm.TBlock.ran {m : Nat} {w w' : World} {g S : Nat} {ps : List (Tm × Hd)} (h : TBlock w g S ps) (hr : Ran m w w') (hm : g ≠ m) : TBlock w' g S ps := by
  have hl := h.lt
  obtain ⟨cur, hg, h2⟩ := h
  exact ⟨cur, by rw [hr.block g hl hm]; exact hg, h2⟩
theorem Trm.TBlock.row {B : Nat} {w : World} {g S : Nat} {ps : List (Tm × Hd)} (h : TBlock w g S ps) (hg : g < B) (hi : ∀ p ∈ ps, p.1.In B w p.2) : RowIn B w (some ⟨g, 0, none⟩) 0 (ps.map (·.1)) := by
  refine RowIn.mk fun k hk => ?_
  have hk' : k < ps.length := by simpa using hk
  have hc := h.cells k hk'
  refine ⟨g, 0, rfl, hg, ps[k].2, ?_, ?_⟩
  · rw [List.getElem_map]; simpa using hc
  · rw [List.getElem_map]; exact hi _ (List.getElem_mem hk')
theorem Trm.own_put {w : World} {base e size n : Nat} {v : Value} {xs : List Value} (h : w.ownsRow base e size v n xs) {b : Nat} (hb : b < base) (v0 v1 v2 v3 v4 : Value) : (putT w b v0 v1 v2 v3 v4).ownsRow base e size v n xs :=
  ownsRow_setCell_below (ownsRow_setCell_below (ownsRow_setCell_below (ownsRow_setCell_below (ownsRow_setCell_below h (a := ⟨b, 0, none⟩) hb _) (a := ⟨b, 1, none⟩) hb _) (a := ⟨b, 2, none⟩) hb _) (a := ⟨b, 3, none⟩) hb _) (a := ⟨b, 4, none⟩) hb _
theorem Trm.putT_ran (w : World) (g : Nat) (v0 v1 v2 v3 v4 : Value) : Ran g w (putT w g v0 v1 v2 v3 v4) :=
  ((((Ran.set w g 0 v0).trans (Ran.set _ g 1 v1)).trans (Ran.set _ g 2 v2)).trans (Ran.set _ g 3 v3)).trans (Ran.set _ g 4 v4)

set_option maxRecDepth 100000 in
theorem Reverse_nil (w : World) : Calls Try.prog 109 #[.slice none 0 0] w fun e w' => e = .returned (.tuple #[]) ∧ w = w' := by
  go_enter Try.func109, Try.ntmps109
  go_wp2_with fail
  go_rounds 1
  go_end0
  exact ⟨rfl, rfl⟩

/-- What Spine answers of a term that may be. -/
def Trm.Spined (t : Tm) (w : World) (e : Ending) (w' : World) : Prop :=
  ∃ g hg m ao cap, e = .returned (.tuple #[g.val hg, .slice ao m.length cap]) ∧ t = appl g m ∧ g.k ≠ 4 ∧ g.In w'.heap.size w' hg ∧ RowIn w'.heap.size w' ao 0 m ∧ m.length ≤ 65536 ∧ Below w.heap.size w w'

def Trm.SpRel (w : World) (t : Tm) (gk : Nat) (v : Value) (wr : World) : Prop :=
  ∃ (c : Tm) (hc : Hd) (ps : List (Tm × Hd)) (d : Int), gk = c.size.toNat ∧ Below w.heap.size w wr ∧ wr.heap[w.heap.size]? = some (c.box hc) ∧ wr.heap[w.heap.size + 1]? = some (.cells #[.int .u8 0, .int .i64 0, .string ⟨#[]⟩, .slice none 0 0, .slice none 0 0] 25) ∧
    c.In w.heap.size wr hc ∧ (∀ p ∈ ps, p.1.In w.heap.size wr p.2) ∧ t = appl c (ps.reverse.map (·.1)) ∧ OkMay c d ∧ ps.length + c.size ≤ t.size ∧ wr.ownsRow (w.heap.size + 2) 25 5 v ps.length (flat ps)

theorem Trm.t2_size (f x : Tm) : (t2 4 f x).size = 1 + f.size + x.size := by
  unfold t2; rw [Tm.size, sizeL, sizeL, sizeL]; omega
theorem Trm.may_size {t : Tm} (h : t.may = true) : t.size ≤ 65536 := by
  have := count_ge t
  unfold Tm.count at this
  rw [if_pos h] at this
  omega

set_option maxRecDepth 100000 in
set_option maxHeartbeats 8000000 in
theorem Spine_yes (t : Tm) (h : Hd) (w : World) (hin : t.In w.heap.size w h) (hmay : t.may = true) :
    Calls Try.prog 64 #[t.val h] w (Spined t w) := by
  have HM := Lib.hid (fun (W : World) (hW : Below w.heap.size w W) => (show Calls Try.prog 14 #[t.val h] W fun e w' => e = .returned (.bool true) ∧ Below W.heap.size W w' from hmay ▸ PMay_any t h W (Tm.In.mono hW.size _ _ (Tm.In.below hW _ _ hin))))
  have HIN := Lib.hid hin
  have HOK := Lib.hid (OkMay.start hmay)
  have HSZ := Lib.hid (may_size hmay)
  clear hin hmay
  obtain ⟨i0, hi, hz0, hz1, hz2⟩ := info_parts infoT
  unfold Tm.val at HM ⊢
  dsimp only [Tm.vals] at HM ⊢
  go_enter Try.func64, Try.ntmps64
  go_wp2_with fail
  refine (HM.out _ (below_two w _ _)).mono ?_
  rintro e w1 ⟨rfl, b1⟩
  have HB := Lib.hid ((below_two w _ _).trans (b1.mono (B' := w.heap.size) (by simp; omega)))
  have HB1 := Lib.hid (Lvl.keep b1 (new1of2 w (t.box h) _))
  have HB2 := Lib.hid (Lvl.keep b1 (new2 w (t.box h) _))
  have HZ := Lib.hid b1.size
  clear b1
  go_wp2_with fail
  go_loopg [4] t.size.toNat (fun gk v wr => SpRel w t gk v wr)
  case atStart => exact ⟨t, h, [], 1, rfl, HB.out, HB1.out, HB2.out, Tm.In.below HB.out _ _ HIN.out, fun p hp => by simp at hp, rfl, HOK.out, by simp, rfl, Or.inl ⟨rfl, rfl⟩⟩
  case round =>
    obtain ⟨c, hc, ps, d, hgk, hbel, hbx, hbr, hcin, hps, hap, hok, hsz, hown⟩ := hrel
    have HGK := Lib.hid hgk
    have HBE := Lib.hid hbel
    have HBX := Lib.hid hbx
    have HBR := Lib.hid hbr
    have HCI := Lib.hid hcin
    have HPS := Lib.hid hps
    have HAP := Lib.hid hap
    have HSC := Lib.hid hsz
    have HOW := Lib.hid hown
    have hzq := HZ.out
    have hzr := hbel.size
    have hlt0 : w.heap.size + 1 < wr.heap.size := (Array.getElem?_eq_some_iff.1 hbr).1
    clear hgk hbel hbr hps hap hsz hown
    by_cases hk4 : c.k = 4
    · obtain ⟨f, x, rfl⟩ := node_app hok.node.1 hk4
      obtain ⟨b, off, hao, hat0⟩ := hcin.kid 0 (by simp [t2, Tm.ts])
      obtain ⟨b', off', hao', hat1⟩ := hcin.kid 1 (by simp [t2, Tm.ts])
      rw [hao] at hao'
      cases hao'
      have hat0' : TAt w.heap.size wr b off f := by simpa [t2, Tm.ts] using hat0
      have hat1' : TAt w.heap.size wr b (off + 5) x := by simpa [t2, Tm.ts] using hat1
      obtain ⟨hb0, h0, hp, hi0⟩ := hat0'
      obtain ⟨_, h1, hq, hi1⟩ := hat1'
      have HP0 := Lib.hid hp
      have HI0 := Lib.hid hi0
      have HI1 := Lib.hid hi1
      have c0 : wr.cell? ⟨w.heap.size, 0, none⟩ = some (.int .u8 4) := (Tm.cells hbx).c0
      have c4 : wr.cell? ⟨w.heap.size, 4, none⟩ = some (.slice (some ⟨b, off, none⟩) 2 hc.tc) := by
        have h4 := (Tm.cells hbx).c4
        rw [hao] at h4
        exact h4
      obtain ⟨q0, q1, q2, q3, q4⟩ := hq
      have HOK2 := Lib.hid (hok.down f (by simp [t2, Tm.ts]))
      have HAO := Lib.hid hao
      have hbz : b < wr.heap.size := by omega
      clear hk4 hat0 hat1 hp hi0 hi1 hbx hcin hok hao
      have hlen : ps.length ≤ 65536 := by have := HSC.out; have := HSZ.out; have := (t2 4 f x).size_pos; omega
      go_wp2_with (at_builtin; refine wpList_append_own _ rfl _ _ 23 rfl (w.heap.size + 2) 25 i0 _ 5 80 Try.underlying23 hi hz0 hz1 hz2 rfl (by decide) _ _ _ rfl (HOW.out.alloc _) ⟨wr.heap.size, 0, none⟩ 1 1 (x.vals h1).toList rfl rfl ?c1 ?c2 ?c3 ?c4 ?c5 ?_)
      case c1 => exact World.news_of_block (cs := x.vals h1) (t := 25) (fr := (0, 0)) (World.alloc_heap_new wr _)
      case c2 => simp [Tm.vals, Value.oneCell']
      case c3 => unfold maxLen; omega
      case c4 => omega
      case c5 => simp; omega
      intro v' w2 hown2 hg2 _
      have hb2 : Below (w.heap.size + 2) wr w2 := Below.trans (Below.mono (below_one wr _) (by omega)) (below_own (HOW.out.alloc _) hg2 (by simp; omega))
      have HB2' := Lib.hid hb2
      have HO2 := Lib.hid hown2
      have hz2' := hb2.size
      clear hown2 hg2 c0 c4 q0 q1 q2 q3 q4
      have hbx2 := (show w2.heap[w.heap.size]? = some ((t2 4 f x).box hc) from (hb2.block _ (by omega)).trans HBX.out)
      have c4 : w2.cell? ⟨w.heap.size, 4, none⟩ = some (.slice (some ⟨b, off, none⟩) 2 hc.tc) := by
        have h4 := (Tm.cells hbx2).c4
        rw [HAO.out] at h4
        exact h4
      obtain ⟨c0, c1, c2, c3, _⟩ := five_cells (show w2.heap[w.heap.size]? = some (.cells #[_, _, _, _, _] 25) from hbx2)
      obtain ⟨f0, f1, f2, f3, f4⟩ := five_free (show w2.heap[w.heap.size]? = some (.cells #[_, _, _, _, _] 25) from hbx2)
      obtain ⟨p0, p1, p2, p3, p4⟩ := HP0.out.below hb2 (by omega : b < w.heap.size + 2)
      have HX2 := Lib.hid hbx2
      have hlt2 : w.heap.size < w2.heap.size := by omega
      clear hb2 hbx2
      go_wp2_with fail
      go_roundg f.size.toNat
      case measure => have h1 := HGK.out; have h2 := t2_size f x; have h3 := f.size_pos; have h4 := x.size_pos; omega
      case rel =>
        have hk := putT_ran w2 w.heap.size (.int .u8 f.k) (.int .i64 f.n) (.string f.s) (.slice h0.lo f.ls.length h0.lc) (.slice h0.to f.ts.length h0.tc)
        have hw := HBE.out.trans ((HB2'.out.mono (by omega)).trans (hk.below (Nat.le_refl _) (by omega)))
        refine ⟨f, h0, ps ++ [(x, h1)], d + 1, rfl, hw, ?_, ?_, ?_, ?_, ?_, HOK2.out, ?_, ?_⟩
        · exact putT_self HX2.out _ _ _ _ _
        · exact putT_other ((HB2'.out.block _ (by omega)).trans HBR.out) _ _ _ _ _ (by omega)
        · exact Tm.In.below ((HB2'.out.mono (by omega)).trans (hk.below (Nat.le_refl _) (by omega))) _ _ HI0.out
        · intro p hp
          rcases List.mem_append.1 hp with hp | hp
          · exact Tm.In.below ((HB2'.out.mono (by omega)).trans (hk.below (Nat.le_refl _) (by omega))) _ _ (HPS.out p hp)
          · simp at hp
            subst hp
            exact Tm.In.below ((HB2'.out.mono (by omega)).trans (hk.below (Nat.le_refl _) (by omega))) _ _ HI1.out
        · rw [HAP.out]
          simp [appl_cons]
        · have h1 := HSC.out
          have h2 := t2_size f x
          have h3 := x.size_pos
          simp
          omega
        · rw [flat_snoc, List.length_append]
          exact own_put HO2.out (by omega) _ _ _ _ _
    · have hq4 : (c.k == 4) = false := by simpa using hk4
      obtain ⟨c0, c1, c2, c3, c4⟩ := Tm.cells hbx
      have HK4 := Lib.hid hk4
      clear hk4 hbx hcin hok
      have hlen : ps.length ≤ 65536 := by have := HSC.out; have := HSZ.out; have := c.size_pos; omega
      have hown := HOW.out
      obtain ⟨hfl, ⟨rfl, hn0⟩ | ⟨g, cap, cur, rfl, hbg, hgb, _⟩⟩ := hown
      · have HPN : Hid (ps = []) := Lib.hid (List.eq_nil_of_length_eq_zero hn0)
        clear hn0 hfl
        go_wp2_with fail
        refine (Reverse_nil _).mono ?_
        rintro e w3 ⟨rfl, rfl⟩
        clear c0 c1 c2 c3 c4
        have hx3 := HBX.out
        have hr3 := HBR.out
        obtain ⟨p0, p1, p2, p3, p4⟩ := five_cells (show wr.heap[w.heap.size]? = some (.cells #[_, _, _, _, _] 25) from hx3)
        obtain ⟨c0, c1, c2, c3, c4⟩ := five_cells (show wr.heap[w.heap.size + 1]? = some (.cells #[_, _, _, _, _] 25) from hr3)
        obtain ⟨f0, f1, f2, f3, f4⟩ := five_free (show wr.heap[w.heap.size + 1]? = some (.cells #[_, _, _, _, _] 25) from hr3)
        have HR3 := Lib.hid hr3
        have hlt3 : w.heap.size + 1 < wr.heap.size := (Array.getElem?_eq_some_iff.1 hr3).1
        clear hx3 hr3
        go_wp2_with fail
        have h5 := putT_self HR3.out (.int .u8 c.k) (.int .i64 c.n) (.string c.s) (.slice hc.lo c.ls.length hc.lc) (.slice hc.to c.ts.length hc.tc)
        have r5 := putT_ran wr (w.heap.size + 1) (.int .u8 c.k) (.int .i64 c.n) (.string c.s) (.slice hc.lo c.ls.length hc.lc) (.slice hc.to c.ts.length hc.tc)
        unfold putT at h5 r5
        generalize hW : ((((wr.setCell ⟨w.heap.size + 1, 0, none⟩ (.int .u8 c.k)).setCell ⟨w.heap.size + 1, 1, none⟩ (.int .i64 c.n)).setCell ⟨w.heap.size + 1, 2, none⟩ (.string c.s)).setCell ⟨w.heap.size + 1, 3, none⟩ (.slice hc.lo c.ls.length hc.lc)).setCell ⟨w.heap.size + 1, 4, none⟩ (.slice hc.to c.ts.length hc.tc) = W4 at h5 r5 ⊢
        obtain ⟨e0, e1, e2, e3, e4⟩ := five_cells h5
        clear hW
        exact bodyPost_ret (v := .tuple #[c.val hc, .slice none (([] : List Tm)).length 0]) (by simp [results, Try.results64, go_sem, e0, e1, e2, e3, e4, Tm.val, Tm.vals]) rfl
          ⟨c, hc, [], none, 0, rfl, by rw [HAP.out, HPN.out]; rfl, HK4.out, Tm.In.mono (by have := r5.size; omega) _ _ (Tm.In.below (r5.below (B := w.heap.size) (by omega) (by omega)) _ _ HCI.out), by rw [RowIn]; trivial, by simp, HBE.out.trans (r5.below (B := w.heap.size) (by omega) (by omega))⟩
      · obtain ⟨hg2, _, htb⟩ := block_of_own HOW.out
        have HG2 := Lib.hid hg2
        have HTB := Lib.hid (Reverse_any g (cap * 5) cap ps wr htb (by omega))
        have hgl := htb.lt
        have HGB := Lib.hid hgb
        clear htb hg2 hfl hbg hgb
        go_wp2_with fail
        refine HTB.out.mono ?_
        rintro e w3 ⟨rfl, tb3, r3⟩
        clear c0 c1 c2 c3 c4
        have HT3 := Lib.hid tb3
        have HR3' := Lib.hid r3
        have hsz3 := r3.size
        have hx3 : w3.heap[w.heap.size]? = some (c.box hc) := r3.keep HBX.out (by have := HG2.out; omega)
        have hr3 := r3.keep HBR.out (by have := HG2.out; omega)
        clear tb3 r3
        obtain ⟨p0, p1, p2, p3, p4⟩ := five_cells (show w3.heap[w.heap.size]? = some (.cells #[_, _, _, _, _] 25) from hx3)
        obtain ⟨c0, c1, c2, c3, c4⟩ := five_cells (show w3.heap[w.heap.size + 1]? = some (.cells #[_, _, _, _, _] 25) from hr3)
        obtain ⟨f0, f1, f2, f3, f4⟩ := five_free (show w3.heap[w.heap.size + 1]? = some (.cells #[_, _, _, _, _] 25) from hr3)
        have HR3 := Lib.hid hr3
        have hlt3 : w.heap.size + 1 < w3.heap.size := (Array.getElem?_eq_some_iff.1 hr3).1
        clear hx3 hr3
        go_wp2_with fail
        have h5 := putT_self HR3.out (.int .u8 c.k) (.int .i64 c.n) (.string c.s) (.slice hc.lo c.ls.length hc.lc) (.slice hc.to c.ts.length hc.tc)
        have r5 := putT_ran w3 (w.heap.size + 1) (.int .u8 c.k) (.int .i64 c.n) (.string c.s) (.slice hc.lo c.ls.length hc.lc) (.slice hc.to c.ts.length hc.tc)
        unfold putT at h5 r5
        generalize hW : ((((w3.setCell ⟨w.heap.size + 1, 0, none⟩ (.int .u8 c.k)).setCell ⟨w.heap.size + 1, 1, none⟩ (.int .i64 c.n)).setCell ⟨w.heap.size + 1, 2, none⟩ (.string c.s)).setCell ⟨w.heap.size + 1, 3, none⟩ (.slice hc.lo c.ls.length hc.lc)).setCell ⟨w.heap.size + 1, 4, none⟩ (.slice hc.to c.ts.length hc.tc) = W4 at h5 r5 ⊢
        obtain ⟨e0, e1, e2, e3, e4⟩ := five_cells h5
        clear hW
        have hg3 := HG2.out
        have hall := (HR3'.out.below (B := w.heap.size) (by omega) (by omega)).trans (r5.below (B := w.heap.size) (by omega) (by omega))
        have hrow := TBlock.row (B := W4.heap.size) (HT3.out.ran r5 (by omega)) (by have := r5.size; omega) (fun p hp => Tm.In.mono (by have := r5.size; omega) _ _ (Tm.In.below hall _ _ (HPS.out p (List.mem_reverse.1 hp))))
        exact bodyPost_ret (v := .tuple #[c.val hc, .slice (some ⟨g, 0, none⟩) (ps.reverse.map (·.1)).length cap]) (by simp [results, Try.results64, go_sem, e0, e1, e2, e3, e4, Tm.val, Tm.vals]) rfl
          ⟨c, hc, ps.reverse.map (·.1), some ⟨g, 0, none⟩, cap, rfl, HAP.out, HK4.out, Tm.In.mono (by have := r5.size; omega) _ _ (Tm.In.below hall _ _ HCI.out), hrow, by simp; omega, HBE.out.trans hall⟩
end Go.Proofs.Ytijdlihodpodjaa
