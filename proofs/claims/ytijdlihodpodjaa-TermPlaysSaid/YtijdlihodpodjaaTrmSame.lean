/-
  battenref03.Same.
-/
import Derived.Test.YtijdlihodpodjaaTrmNode
import Derived.Deep.RegionHeld3
namespace Go.Proofs.Ytijdlihodpodjaa
open Go.RowKit Go.Shelf Lvl Trm

/-- Are two terms the same tree? -/
noncomputable def Trm.same (a b : Tm) : Bool := @decide (a = b) (Classical.propDecidable _)
theorem Trm.same_iff {a b : Tm} : same a b = true ↔ a = b := by unfold same; simp
theorem Trm.same_yes {a b : Tm} (h : a = b) : true = same a b := (same_iff.2 h).symm
theorem Trm.same_no {a b : Tm} (h : ¬ a = b) : false = same a b := by
  cases hs : same a b
  · rfl
  · exact absurd (same_iff.1 hs) h
theorem Trm.Tm.ext {a b : Tm} (hk : a.k = b.k) (hn : a.n = b.n) (hs : a.s = b.s) (hl : a.ls = b.ls) (ht : a.ts = b.ts) : a = b := by
  rw [a.eta, b.eta, hk, hn, hs, hl, ht]

theorem Trm.take_same {α : Type} {l m : List α} {k : Nat} (hl : k < l.length) (hm : k < m.length) (h : l.take k = m.take k) (he : l[k] = m[k]) : l.take (k + 1) = m.take (k + 1) := by
  rw [List.take_succ_eq_append_getElem hl, List.take_succ_eq_append_getElem hm, h, he]
theorem Trm.all_same {α : Type} {l m : List α} {k : Nat} (hlm : l.length = m.length) (hk : l.length ≤ k) (h : l.take k = m.take k) : l = m := by
  rwa [List.take_of_length_le hk, List.take_of_length_le (by omega)] at h

theorem Trm.eq_self (a0 a1 a2 a3 : Int) (w : World) : (Op.equalIn 9999 81 (.agg #[.int .i64 a0, .int .i64 a1, .int .i64 a2, .int .i64 a3]) (.agg #[.int .i64 a0, .int .i64 a1, .int .i64 a2, .int .i64 a3])).run Try.prog w = .ok true w := by
  refine (eq_arr 9997 _ _ _ _ _ _ _ _ w).trans ?_
  simp
structure Trm.Kept2 (w wr : World) (o o' : Obj) : Prop where
  bel : Below w.heap.size w wr
  box : wr.heap[w.heap.size]? = some o
  box' : wr.heap[w.heap.size + 1]? = some o'
theorem Trm.Kept2.start (w : World) (o o' : Obj) : Kept2 w ((w.alloc o).alloc o') o o' := ⟨below_two _ _ _, new1of2 _ _ _, new2 _ _ _⟩
theorem Trm.Kept2.step {w wr w1 : World} {o o' : Obj} (h : Kept2 w wr o o') (b : Below wr.heap.size wr w1) : Kept2 w w1 o o' := ⟨h.bel.trans (b.mono h.bel.size), keep b h.box, keep b h.box'⟩
theorem Trm.Kept2.drewN {w wr : World} {o o' : Obj} (h : Kept2 w wr o o') (n : Nat) : Kept2 w (wr.drewN n) o o' := by
  refine h.step ⟨?_, ?_, ?_, ?_, ?_⟩ <;> simp [World.drewN]

def Trm.LsRel (w : World) (o o' : Obj) (ls ls' : List Lv) (i : Value) (wr : World) : Prop :=
  ∃ k : Nat, i = .int .i64 k ∧ k ≤ ls.length ∧ ls.take k = ls'.take k ∧ Kept2 w wr o o'
def Trm.TsRel (w : World) (o o' : Obj) (ls ls' : List Tm) (i : Value) (wr : World) : Prop :=
  ∃ k : Nat, i = .int .i64 k ∧ k ≤ ls.length ∧ ls.take k = ls'.take k ∧ Kept2 w wr o o'

set_option maxRecDepth 100000 in
set_option maxHeartbeats 4000000 in
theorem RefSame_any (a : Tm) : ∀ (b : Tm) (h h' : Hd) (w : World), a.In w.heap.size w h → b.In w.heap.size w h' →
    Calls Try.prog 18 #[a.val h, b.val h'] w fun e w' => e = .returned (.bool (same a b)) ∧ Below w.heap.size w w' := by
  induction a using Tm.ind with
  | h a ih =>
    intro b h h' w hin hin'
    have HIH := Lib.hid ih
    clear ih
    have hfit := hin.fit
    have hls := hfit.ls
    have hts := hfit.ts
    have hfit' := hin'.fit
    have hls' := hfit'.ls
    have hts' := hfit'.ts
    clear hfit hfit'
    have HIN := Lib.hid hin
    have HIN' := Lib.hid hin'
    clear hin hin'
    obtain ⟨G, hG⟩ : ∃ G, G = same a b := ⟨_, rfl⟩
    rw [← hG]
    have HG := Lib.hid hG
    clear hG
    have HN : Hid (¬ a = b → false = G) := Lib.hid (fun hn => by rw [HG.out]; exact same_no hn)
    by_cases h1 : a.k = b.k
    · by_cases h2 : a.n = b.n
      · by_cases h3 : a.s = b.s
        · by_cases h4 : a.ls.length = b.ls.length
          · by_cases h5 : a.ts.length = b.ts.length
            · unfold Tm.val Tm.vals
              have H1 := Lib.hid h1
              have H2 := Lib.hid h2
              have H3 := Lib.hid h3
              have H4 := Lib.hid h4
              have H5 := Lib.hid h5
              rw [← h1, ← h2, ← h3, ← h4, ← h5]
              have HB : Hid (Tm.box b h' = .cells #[.int .u8 a.k, .int .i64 a.n, .string a.s, .slice h'.lo a.ls.length h'.lc, .slice h'.to a.ts.length h'.tc] 25) := Lib.hid (by rw [Tm.box, Tm.vals, ← h1, ← h2, ← h3, ← h4, ← h5])
              clear h1 h2 h3 h4 h5
              go_enter Try.func18, Try.ntmps18
              go_wp2_with fail
              go_loopw [5] (fun i wr => LsRel w (a.box h) (b.box h') a.ls b.ls i wr) (fun i _ => a.ls.length - (intOf i).toNat)
              case atStart => exact ⟨0, rfl, by omega, rfl, by rw [HB.out]; exact Kept2.start _ _ _⟩
              case round =>
                obtain ⟨k, rfl, hk, htk, hkept⟩ := hrel
                have HK := Lib.hid hkept
                have HT := Lib.hid htk
                clear hkept htk
                obtain ⟨c0, c1, c2, c3, c4⟩ := Tm.cells HK.out.box
                have hbox' := HK.out.box'
                obtain ⟨d0, d1, d2, d3, d4⟩ := Tm.cells hbox'
                rw [← H4.out] at d3
                rw [← H5.out] at d4
                clear hbox' c0 c1 c2 d0 d1 d2
                by_cases hlt : k < a.ls.length
                · have hlt' : k < b.ls.length := by have := H4.out; omega
                  obtain ⟨b1, off1, hao1, l0, l1, l2, l3, l4⟩ := (Trm.LRow.low HIN.out.levels (Tm.In_iff.1 HIN.out).2.2.1 HK.out.bel).place k hlt
                  obtain ⟨b2, off2, hao2, m0, m1, m2, m3, m4⟩ := (Trm.LRow.low HIN'.out.levels (Tm.In_iff.1 HIN'.out).2.2.1 HK.out.bel).place k hlt'
                  rw [hao1] at c3
                  rw [hao2] at d3
                  clear hao1 hao2
                  have HY : Hid (a.ls[k] = b.ls[k] → a.ls.take (k + 1) = b.ls.take (k + 1)) := Lib.hid (take_same hlt hlt' HT.out)
                  have HF : Hid (¬ a.ls[k] = b.ls[k] → false = G) := Lib.hid (fun hn => HN.out fun e => hn (by subst e; rfl))
                  generalize a.ls[k] = x at l0 l1 l2 l3 l4 HY HF
                  generalize b.ls[k] = y at m0 m1 m2 m3 m4 HY HF
                  by_cases hxy : x = y
                  · subst hxy
                    have hsame := eq_self x.p0 x.p1 x.p2 x.p3
                    have HY1 := Lib.hid (HY.out rfl)
                    clear HF HY hlt'
                    go_wp2_with fail
                    go_quiet (fail)
                    go_wp2_with fail
                    go_roundw
                    case rel => exact ⟨k + 1, by go_num, by omega, HY1.out, HK.out.drewN _⟩
                    case measure => simp [intOf]; omega
                  · have HF1 := Lib.hid (HF.out hxy)
                    have hne : ((x.c == y.c) && (x.p0 == y.p0 && x.p1 == y.p1 && x.p2 == y.p2 && x.p3 == y.p3)) = false := by
                      rw [Bool.eq_false_iff]
                      intro hh
                      simp only [Bool.and_eq_true, beq_iff_eq] at hh
                      exact hxy (Lv.ext_all hh.1 hh.2.1.1.1 hh.2.1.1.2 hh.2.1.2 hh.2.2)
                    have harr := eq_arr 9997 x.p0 x.p1 x.p2 x.p3 y.p0 y.p1 y.p2 y.p3
                    generalize (x.p0 == y.p0 && x.p1 == y.p1 && x.p2 == y.p2 && x.p3 == y.p3) = r at hne harr
                    have harr' : ∀ w, (Op.equalIn 9999 81 (.agg #[.int .i64 x.p0, .int .i64 x.p1, .int .i64 x.p2, .int .i64 x.p3]) (.agg #[.int .i64 y.p0, .int .i64 y.p1, .int .i64 y.p2, .int .i64 y.p3])).run Try.prog w = .ok r w := harr
                    clear harr
                    clear HF HY hlt' hxy
                    by_cases hc : x.c = y.c
                    · have hc' : (x.c == y.c) = true := by simpa using hc
                      have hr : r = false := by rw [hc'] at hne; simpa using hne
                      subst hr
                      clear hne hc
                      go_wp2_with fail
                      go_quiet (fail)
                      go_wp2_with fail
                      go_ret
                      exact ⟨ret_bool HF1.out, (HK.out.drewN _).bel⟩
                    · have hc' : (x.c == y.c) = false := by simpa using hc
                      clear hne hc
                      go_wp2_with fail
                      go_quiet (fail)
                      go_wp2_with fail
                      go_ret
                      exact ⟨ret_bool HF1.out, (HK.out.drewN _).bel⟩
                · have HLS : Hid (a.ls = b.ls) := Lib.hid (all_same H4.out (by omega) HT.out)
                  clear d3 HT
                  go_wp2_with fail
                  clear c3 c4 d4
                  go_loopw [6] (fun i wr => TsRel w (a.box h) (b.box h') a.ts b.ts i wr) (fun i _ => a.ts.length - (intOf i).toNat)
                  case atStart => exact ⟨0, rfl, by omega, rfl, HK.out⟩
                  case round =>
                    clear HK hlt hk
                    obtain ⟨k, rfl, hk, htk, hkept⟩ := hrel
                    have HK := Lib.hid hkept
                    have HT := Lib.hid htk
                    clear hkept htk
                    obtain ⟨c0, c1, c2, c3, c4⟩ := Tm.cells HK.out.box
                    have hbox' := HK.out.box'
                    obtain ⟨d0, d1, d2, d3, d4⟩ := Tm.cells hbox'
                    rw [← H5.out] at d4
                    clear hbox' c0 c1 c2 d0 d1 d2 c3 d3
                    by_cases hlt : k < a.ts.length
                    · have hlt' : k < b.ts.length := by have := H5.out; omega
                      obtain ⟨b1, off1, hao1, hb1, e1, ⟨l0, l1, l2, l3, l4⟩, i1⟩ := (HIN.out.below HK.out.bel).kid k hlt
                      obtain ⟨b2, off2, hao2, hb2, e2, ⟨m0, m1, m2, m3, m4⟩, i2⟩ := (HIN'.out.below HK.out.bel).kid k hlt'
                      rw [hao1] at c4
                      rw [hao2] at d4
                      clear hao1 hao2
                      have HY : Hid (a.ts[k] = b.ts[k] → a.ts.take (k + 1) = b.ts.take (k + 1)) := Lib.hid (take_same hlt hlt' HT.out)
                      have HF : Hid (¬ a.ts[k] = b.ts[k] → false = G) := Lib.hid (fun hn => HN.out fun e => hn (by subst e; rfl))
                      have HX := Lib.hid (HIH.out _ (List.getElem_mem hlt) b.ts[k] e1 e2)
                      have HI1 := Lib.hid i1
                      have HI2 := Lib.hid i2
                      clear i1 i2
                      generalize a.ts[k] = x at l0 l1 l2 l3 l4 HY HF HX HI1
                      generalize b.ts[k] = y at m0 m1 m2 m3 m4 HY HF HX HI2
                      have HZ : Hid (∀ W, Below wr.heap.size wr W → Calls Try.prog 18 #[x.val e1, y.val e2] W fun e w' => e = .returned (.bool (same x y)) ∧ Below W.heap.size W w') :=
                        Lib.hid (fun W hW => HX.out W (Tm.In.mono (Nat.le_trans HK.out.bel.size hW.size) _ _ (Tm.In.below (hW.mono HK.out.bel.size) _ _ HI1.out)) (Tm.In.mono (Nat.le_trans HK.out.bel.size hW.size) _ _ (Tm.In.below (hW.mono HK.out.bel.size) _ _ HI2.out)))
                      unfold Tm.val Tm.vals at HZ
                      have z1 : w.heap.size < wr.heap.size := World.block_lt_of_cell? wr _ c4
                      have z2 : w.heap.size + 1 < wr.heap.size := World.block_lt_of_cell? wr _ d4
                      have z3 : b1 < wr.heap.size := World.block_lt_of_cell? wr _ l0
                      have z4 : b2 < wr.heap.size := World.block_lt_of_cell? wr _ m0
                      clear HX HI1 HI2 hlt' hb1 hb2
                      cases hr : same x y
                      · have HF1 := Lib.hid (HF.out (fun e => by rw [same_iff.2 e] at hr; cases hr))
                        rw [hr] at HZ
                        clear hr HF HY
                        go_wp2_with fail
                        go_region_held3 (fun w' => w'.cell? ⟨w.heap.size, 0 + 4, none⟩ = some (.slice (some ⟨b1, off1, none⟩) a.ts.length h.tc) ∧ w'.cell? ⟨w.heap.size + 1, 0 + 4, none⟩ = some (.slice (some ⟨b2, off2, none⟩) a.ts.length h'.tc) ∧ w'.cell? ⟨b1, off1 + k * 5, none⟩ = some (.int .u8 x.k) ∧ w'.cell? ⟨b1, off1 + k * 5 + 1, none⟩ = some (.int .i64 x.n) ∧ w'.cell? ⟨b1, off1 + k * 5 + 2, none⟩ = some (.string x.s) ∧ w'.cell? ⟨b1, off1 + k * 5 + 3, none⟩ = some (.slice e1.lo x.ls.length e1.lc) ∧ w'.cell? ⟨b1, off1 + k * 5 + 4, none⟩ = some (.slice e1.to x.ts.length e1.tc) ∧ w'.cell? ⟨b2, off2 + k * 5, none⟩ = some (.int .u8 y.k) ∧ w'.cell? ⟨b2, off2 + k * 5 + 1, none⟩ = some (.int .i64 y.n) ∧ w'.cell? ⟨b2, off2 + k * 5 + 2, none⟩ = some (.string y.s) ∧ w'.cell? ⟨b2, off2 + k * 5 + 3, none⟩ = some (.slice e2.lo y.ls.length e2.lc) ∧ w'.cell? ⟨b2, off2 + k * 5 + 4, none⟩ = some (.slice e2.to y.ts.length e2.tc))
                          (go_keep)
                          ((go_at_call 18; refine (HZ.out _ ?_).mono ?_; exact (Below.refl _ _).drew; rintro e w1 ⟨rfl, bw⟩; have q1 := (bw.cell (p := ⟨w.heap.size, 0 + 4, none⟩) z1).trans c4; have q2 := (bw.cell (p := ⟨w.heap.size + 1, 0 + 4, none⟩) z2).trans d4; obtain ⟨r0, r1, r2, r3, r4⟩ := TCells.below ⟨l0, l1, l2, l3, l4⟩ (undrew bw) z3; obtain ⟨s0, s1, s2, s3, s4⟩ := TCells.below ⟨m0, m1, m2, m3, m4⟩ (undrew bw) z4))
                        have HK1 := Lib.hid (HK.out.step (undrew bw))
                        clear bw r0 r1 r2 r3 r4 s0 s1 s2 s3 s4 q1 q2 c4 d4 l0 l1 l2 l3 l4 m0 m1 m2 m3 m4
                        go_wp2_with fail
                        go_ret
                        exact ⟨ret_bool HF1.out, HK1.out.bel⟩
                      · have HY1 := Lib.hid (HY.out (same_iff.1 hr))
                        rw [hr] at HZ
                        clear hr HF HY
                        go_wp2_with fail
                        go_region_held3 (fun w' => w'.cell? ⟨w.heap.size, 0 + 4, none⟩ = some (.slice (some ⟨b1, off1, none⟩) a.ts.length h.tc) ∧ w'.cell? ⟨w.heap.size + 1, 0 + 4, none⟩ = some (.slice (some ⟨b2, off2, none⟩) a.ts.length h'.tc) ∧ w'.cell? ⟨b1, off1 + k * 5, none⟩ = some (.int .u8 x.k) ∧ w'.cell? ⟨b1, off1 + k * 5 + 1, none⟩ = some (.int .i64 x.n) ∧ w'.cell? ⟨b1, off1 + k * 5 + 2, none⟩ = some (.string x.s) ∧ w'.cell? ⟨b1, off1 + k * 5 + 3, none⟩ = some (.slice e1.lo x.ls.length e1.lc) ∧ w'.cell? ⟨b1, off1 + k * 5 + 4, none⟩ = some (.slice e1.to x.ts.length e1.tc) ∧ w'.cell? ⟨b2, off2 + k * 5, none⟩ = some (.int .u8 y.k) ∧ w'.cell? ⟨b2, off2 + k * 5 + 1, none⟩ = some (.int .i64 y.n) ∧ w'.cell? ⟨b2, off2 + k * 5 + 2, none⟩ = some (.string y.s) ∧ w'.cell? ⟨b2, off2 + k * 5 + 3, none⟩ = some (.slice e2.lo y.ls.length e2.lc) ∧ w'.cell? ⟨b2, off2 + k * 5 + 4, none⟩ = some (.slice e2.to y.ts.length e2.tc))
                          (go_keep)
                          ((go_at_call 18; refine (HZ.out _ ?_).mono ?_; exact (Below.refl _ _).drew; rintro e w1 ⟨rfl, bw⟩; have q1 := (bw.cell (p := ⟨w.heap.size, 0 + 4, none⟩) z1).trans c4; have q2 := (bw.cell (p := ⟨w.heap.size + 1, 0 + 4, none⟩) z2).trans d4; obtain ⟨r0, r1, r2, r3, r4⟩ := TCells.below ⟨l0, l1, l2, l3, l4⟩ (undrew bw) z3; obtain ⟨s0, s1, s2, s3, s4⟩ := TCells.below ⟨m0, m1, m2, m3, m4⟩ (undrew bw) z4))
                        have HK1 := Lib.hid (HK.out.step (undrew bw))
                        clear bw r0 r1 r2 r3 r4 s0 s1 s2 s3 s4 q1 q2 c4 d4 l0 l1 l2 l3 l4 m0 m1 m2 m3 m4
                        go_wp2_with fail
                        go_roundw
                        case rel => exact ⟨k + 1, by go_num, by omega, HY1.out, HK1.out⟩
                        case measure => simp [intOf]; omega
                    · have HE : Hid (true = G) := Lib.hid (by
                        rw [HG.out]
                        exact same_yes (Tm.ext H1.out H2.out H3.out HLS.out (all_same H5.out (by omega) HT.out)))
                      go_wp2_with fail
                      go_ret
                      exact ⟨ret_bool HE.out, HK.out.bel⟩
            · have HF1 : Hid (false = G) := Lib.hid (HN.out (fun e => h5 (by rw [e])))
              have q : ((a.ts.length : Int) != b.ts.length) = true := by simp; omega
              unfold Tm.val Tm.vals
              rw [← h1, ← h2, ← h3, ← h4]
              clear h5 h1 h2 h3 h4
              go_enter Try.func18, Try.ntmps18
              go_wp2_with fail
              go_ret
              exact ⟨ret_bool HF1.out, below_two _ _ _⟩
          · have HF1 : Hid (false = G) := Lib.hid (HN.out (fun e => h4 (by rw [e])))
            have q : ((a.ls.length : Int) != b.ls.length) = true := by simp; omega
            unfold Tm.val Tm.vals
            rw [← h1, ← h2, ← h3]
            clear h4 h1 h2 h3
            go_enter Try.func18, Try.ntmps18
            go_wp2_with fail
            go_ret
            exact ⟨ret_bool HF1.out, below_two _ _ _⟩
        · have HF1 : Hid (false = G) := Lib.hid (HN.out (fun e => h3 (by rw [e])))
          have q : ¬ a.s.toList = b.s.toList := fun e => h3 (Go.WideShapes.bytes_inj (by rwa [ByteArray.toList_eq, ByteArray.toList_eq] at e))
          unfold Tm.val Tm.vals
          rw [← h1, ← h2]
          clear h3 h1 h2
          go_enter Try.func18, Try.ntmps18
          go_wp2_with fail
          go_ret
          exact ⟨ret_bool HF1.out, below_two _ _ _⟩
      · have HF1 : Hid (false = G) := Lib.hid (HN.out (fun e => h2 (by rw [e])))
        have q : (a.n != b.n) = true := by simpa using h2
        unfold Tm.val Tm.vals
        rw [← h1]
        clear h2 h1
        go_enter Try.func18, Try.ntmps18
        go_wp2_with fail
        go_ret
        exact ⟨ret_bool HF1.out, below_two _ _ _⟩
    · have HF1 : Hid (false = G) := Lib.hid (HN.out (fun e => h1 (by rw [e])))
      have q : (a.k != b.k) = true := by simpa using h1
      unfold Tm.val Tm.vals
      clear h1 
      go_enter Try.func18, Try.ntmps18
      go_wp2_with fail
      go_ret
      exact ⟨ret_bool HF1.out, below_two _ _ _⟩
end Go.Proofs.Ytijdlihodpodjaa
