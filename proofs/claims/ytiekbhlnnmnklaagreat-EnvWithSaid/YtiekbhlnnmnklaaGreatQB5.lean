/-
  battenref03.Same.
-/
import Derived.Test.YtiekbhlnnmnklaaGreatQB2
import Derived.Deep.RegionHeld3
import Derived.Test.YtiekbhlnnmnklaaGreatQB3
import Derived.Laws.EntriesVeiled
import Derived.Test.YtiekbhlnnmnklaaGreatQB4
import Derived.Test.YtiekbhlnnmnklaaGreatQB1
namespace Go.Proofs.YtiekbhlnnmnklaaGreat
open Go.RowKit Go.Shelf Lvl Trm

/-- Are two terms the same tree? -/
noncomputable def Trm.same (a b : Tm) : Bool := @decide (a = b) (Classical.propDecidable _)
theorem Trm.same_iff {a b : Tm} : same a b = true ↔ a = b := by unfold same; simp
theorem Trm.same_yes {a b : Tm} (h : a = b) : true = same a b := (same_iff.2 h).symm
theorem Trm.same_no {a b : Tm} (h : ¬ a = b) : false = same a b := by
  cases hs : same a b
  · rfl
  · exact absurd (same_iff.1 hs) h
theorem Trm.Tm.ext {a b : Tm} (hk : a.k = b.k) (hn : a.n = b.n) (hs : a.s = b.s) (hl : a.ls = b.ls) (ht : a.ts = b.ts) : a = b := by
  rw [a.eta, b.eta, hk, hn, hs, hl, ht]

theorem Trm.take_same {α : Type} {l m : List α} {k : Nat} (hl : k < l.length) (hm : k < m.length) (h : l.take k = m.take k) (he : l[k] = m[k]) : l.take (k + 1) = m.take (k + 1) := by
  rw [List.take_succ_eq_append_getElem hl, List.take_succ_eq_append_getElem hm, h, he]
theorem Trm.all_same {α : Type} {l m : List α} {k : Nat} (hlm : l.length = m.length) (hk : l.length ≤ k) (h : l.take k = m.take k) : l = m := by
  rwa [List.take_of_length_le hk, List.take_of_length_le (by omega)] at h

theorem Trm.eq_self (a0 a1 a2 a3 : Int) (w : World) : (Op.equalIn 9999 59 (.agg #[.int .i64 a0, .int .i64 a1, .int .i64 a2, .int .i64 a3]) (.agg #[.int .i64 a0, .int .i64 a1, .int .i64 a2, .int .i64 a3])).run Tryz.prog w = .ok true w := by
  refine (eq_arr 9997 _ _ _ _ _ _ _ _ w).trans ?_
  simp
structure Trm.Kept2 (w wr : World) (o o' : Obj) : Prop where
  bel : Below w.heap.size w wr
  box : wr.heap[w.heap.size]? = some o
  box' : wr.heap[w.heap.size + 1]? = some o'
theorem Trm.Kept2.start (w : World) (o o' : Obj) : Kept2 w ((w.alloc o).alloc o') o o' := ⟨below_two _ _ _, new1of2 _ _ _, new2 _ _ _⟩
theorem Trm.Kept2.step {w wr w1 : World} {o o' : Obj} (h : Kept2 w wr o o') (b : Below wr.heap.size wr w1) : Kept2 w w1 o o' := ⟨h.bel.trans (b.mono h.bel.size), keep b h.box, keep b h.box'⟩
theorem Trm.Kept2.drewN {w wr : World} {o o' : Obj} (h : Kept2 w wr o o') (n : Nat) : Kept2 w (wr.drewN n) o o' := by
  refine h.step ⟨?_, ?_, ?_, ?_, ?_⟩ <;> simp [World.drewN]

def Trm.LsRel (w : World) (o o' : Obj) (ls ls' : List Lv) (i : Value) (wr : World) : Prop :=
  ∃ k : Nat, i = .int .i64 k ∧ k ≤ ls.length ∧ ls.take k = ls'.take k ∧ Kept2 w wr o o'
def Trm.TsRel (w : World) (o o' : Obj) (ls ls' : List Tm) (i : Value) (wr : World) : Prop :=
  ∃ k : Nat, i = .int .i64 k ∧ k ≤ ls.length ∧ ls.take k = ls'.take k ∧ Kept2 w wr o o'

set_option maxRecDepth 100000 in
set_option maxHeartbeats 4000000 in
theorem RefSame_any (a : Tm) : ∀ (b : Tm) (h h' : Hd) (w : World), a.In w.heap.size w h → b.In w.heap.size w h' →
    Calls Tryz.prog 29 #[a.val h, b.val h'] w fun e w' => e = .returned (.bool (same a b)) ∧ Below w.heap.size w w' := by
  induction a using Tm.ind with
  | h a ih =>
    intro b h h' w hin hin'
    have HIH := Lib.hid ih
    clear ih
    have hfit := hin.fit
    have hls := hfit.ls
    have hts := hfit.ts
    have hfit' := hin'.fit
    have hls' := hfit'.ls
    have hts' := hfit'.ts
    clear hfit hfit'
    have HIN := Lib.hid hin
    have HIN' := Lib.hid hin'
    clear hin hin'
    obtain ⟨G, hG⟩ : ∃ G, G = same a b := ⟨_, rfl⟩
    rw [← hG]
    have HG := Lib.hid hG
    clear hG
    have HN : Hid (¬ a = b → false = G) := Lib.hid (fun hn => by rw [HG.out]; exact same_no hn)
    by_cases h1 : a.k = b.k
    · by_cases h2 : a.n = b.n
      · by_cases h3 : a.s = b.s
        · by_cases h4 : a.ls.length = b.ls.length
          · by_cases h5 : a.ts.length = b.ts.length
            · unfold Tm.val Tm.vals
              have H1 := Lib.hid h1
              have H2 := Lib.hid h2
              have H3 := Lib.hid h3
              have H4 := Lib.hid h4
              have H5 := Lib.hid h5
              rw [← h1, ← h2, ← h3, ← h4, ← h5]
              have HB : Hid (Tm.box b h' = .cells #[.int .u8 a.k, .int .i64 a.n, .string a.s, .slice h'.lo a.ls.length h'.lc, .slice h'.to a.ts.length h'.tc] 27) := Lib.hid (by rw [Tm.box, Tm.vals, ← h1, ← h2, ← h3, ← h4, ← h5])
              clear h1 h2 h3 h4 h5
              go_enter Tryz.func29, Tryz.ntmps29
              go_wp2_with fail
              go_loopw [5] (fun i wr => LsRel w (a.box h) (b.box h') a.ls b.ls i wr) (fun i _ => a.ls.length - (intOf i).toNat)
              case atStart => exact ⟨0, rfl, by omega, rfl, by rw [HB.out]; exact Kept2.start _ _ _⟩
              case round =>
                obtain ⟨k, rfl, hk, htk, hkept⟩ := hrel
                have HK := Lib.hid hkept
                have HT := Lib.hid htk
                clear hkept htk
                obtain ⟨c0, c1, c2, c3, c4⟩ := Tm.cells HK.out.box
                have hbox' := HK.out.box'
                obtain ⟨d0, d1, d2, d3, d4⟩ := Tm.cells hbox'
                rw [← H4.out] at d3
                rw [← H5.out] at d4
                clear hbox' c0 c1 c2 d0 d1 d2
                by_cases hlt : k < a.ls.length
                · have hlt' : k < b.ls.length := by have := H4.out; omega
                  obtain ⟨b1, off1, hao1, l0, l1, l2, l3, l4⟩ := (Trm.LRow.low HIN.out.levels (Tm.In_iff.1 HIN.out).2.2.1 HK.out.bel).place k hlt
                  obtain ⟨b2, off2, hao2, m0, m1, m2, m3, m4⟩ := (Trm.LRow.low HIN'.out.levels (Tm.In_iff.1 HIN'.out).2.2.1 HK.out.bel).place k hlt'
                  rw [hao1] at c3
                  rw [hao2] at d3
                  clear hao1 hao2
                  have HY : Hid (a.ls[k] = b.ls[k] → a.ls.take (k + 1) = b.ls.take (k + 1)) := Lib.hid (take_same hlt hlt' HT.out)
                  have HF : Hid (¬ a.ls[k] = b.ls[k] → false = G) := Lib.hid (fun hn => HN.out fun e => hn (by subst e; rfl))
                  generalize a.ls[k] = x at l0 l1 l2 l3 l4 HY HF
                  generalize b.ls[k] = y at m0 m1 m2 m3 m4 HY HF
                  by_cases hxy : x = y
                  · subst hxy
                    have hsame := eq_self x.p0 x.p1 x.p2 x.p3
                    have HY1 := Lib.hid (HY.out rfl)
                    clear HF HY hlt'
                    go_wp2_with fail
                    go_quiet (fail)
                    go_wp2_with fail
                    go_roundw
                    case rel => exact ⟨k + 1, by go_num, by omega, HY1.out, HK.out.drewN _⟩
                    case measure => simp [intOf]; omega
                  · have HF1 := Lib.hid (HF.out hxy)
                    have hne : ((x.c == y.c) && (x.p0 == y.p0 && x.p1 == y.p1 && x.p2 == y.p2 && x.p3 == y.p3)) = false := by
                      rw [Bool.eq_false_iff]
                      intro hh
                      simp only [Bool.and_eq_true, beq_iff_eq] at hh
                      exact hxy (Lv.ext_all hh.1 hh.2.1.1.1 hh.2.1.1.2 hh.2.1.2 hh.2.2)
                    have harr := eq_arr 9997 x.p0 x.p1 x.p2 x.p3 y.p0 y.p1 y.p2 y.p3
                    generalize (x.p0 == y.p0 && x.p1 == y.p1 && x.p2 == y.p2 && x.p3 == y.p3) = r at hne harr
                    have harr' : ∀ w, (Op.equalIn 9999 59 (.agg #[.int .i64 x.p0, .int .i64 x.p1, .int .i64 x.p2, .int .i64 x.p3]) (.agg #[.int .i64 y.p0, .int .i64 y.p1, .int .i64 y.p2, .int .i64 y.p3])).run Tryz.prog w = .ok r w := harr
                    clear harr
                    clear HF HY hlt' hxy
                    by_cases hc : x.c = y.c
                    · have hc' : (x.c == y.c) = true := by simpa using hc
                      have hr : r = false := by rw [hc'] at hne; simpa using hne
                      subst hr
                      clear hne hc
                      go_wp2_with fail
                      go_quiet (fail)
                      go_wp2_with fail
                      go_ret
                      exact ⟨ret_bool HF1.out, (HK.out.drewN _).bel⟩
                    · have hc' : (x.c == y.c) = false := by simpa using hc
                      clear hne hc
                      go_wp2_with fail
                      go_quiet (fail)
                      go_wp2_with fail
                      go_ret
                      exact ⟨ret_bool HF1.out, (HK.out.drewN _).bel⟩
                · have HLS : Hid (a.ls = b.ls) := Lib.hid (all_same H4.out (by omega) HT.out)
                  clear d3 HT
                  go_wp2_with fail
                  clear c3 c4 d4
                  go_loopw [6] (fun i wr => TsRel w (a.box h) (b.box h') a.ts b.ts i wr) (fun i _ => a.ts.length - (intOf i).toNat)
                  case atStart => exact ⟨0, rfl, by omega, rfl, HK.out⟩
                  case round =>
                    clear HK hlt hk
                    obtain ⟨k, rfl, hk, htk, hkept⟩ := hrel
                    have HK := Lib.hid hkept
                    have HT := Lib.hid htk
                    clear hkept htk
                    obtain ⟨c0, c1, c2, c3, c4⟩ := Tm.cells HK.out.box
                    have hbox' := HK.out.box'
                    obtain ⟨d0, d1, d2, d3, d4⟩ := Tm.cells hbox'
                    rw [← H5.out] at d4
                    clear hbox' c0 c1 c2 d0 d1 d2 c3 d3
                    by_cases hlt : k < a.ts.length
                    · have hlt' : k < b.ts.length := by have := H5.out; omega
                      obtain ⟨b1, off1, hao1, hb1, e1, ⟨l0, l1, l2, l3, l4⟩, i1⟩ := (HIN.out.below HK.out.bel).kid k hlt
                      obtain ⟨b2, off2, hao2, hb2, e2, ⟨m0, m1, m2, m3, m4⟩, i2⟩ := (HIN'.out.below HK.out.bel).kid k hlt'
                      rw [hao1] at c4
                      rw [hao2] at d4
                      clear hao1 hao2
                      have HY : Hid (a.ts[k] = b.ts[k] → a.ts.take (k + 1) = b.ts.take (k + 1)) := Lib.hid (take_same hlt hlt' HT.out)
                      have HF : Hid (¬ a.ts[k] = b.ts[k] → false = G) := Lib.hid (fun hn => HN.out fun e => hn (by subst e; rfl))
                      have HX := Lib.hid (HIH.out _ (List.getElem_mem hlt) b.ts[k] e1 e2)
                      have HI1 := Lib.hid i1
                      have HI2 := Lib.hid i2
                      clear i1 i2
                      generalize a.ts[k] = x at l0 l1 l2 l3 l4 HY HF HX HI1
                      generalize b.ts[k] = y at m0 m1 m2 m3 m4 HY HF HX HI2
                      have HZ : Hid (∀ W, Below wr.heap.size wr W → Calls Tryz.prog 29 #[x.val e1, y.val e2] W fun e w' => e = .returned (.bool (same x y)) ∧ Below W.heap.size W w') :=
                        Lib.hid (fun W hW => HX.out W (Tm.In.mono (Nat.le_trans HK.out.bel.size hW.size) _ _ (Tm.In.below (hW.mono HK.out.bel.size) _ _ HI1.out)) (Tm.In.mono (Nat.le_trans HK.out.bel.size hW.size) _ _ (Tm.In.below (hW.mono HK.out.bel.size) _ _ HI2.out)))
                      unfold Tm.val Tm.vals at HZ
                      have z1 : w.heap.size < wr.heap.size := World.block_lt_of_cell? wr _ c4
                      have z2 : w.heap.size + 1 < wr.heap.size := World.block_lt_of_cell? wr _ d4
                      have z3 : b1 < wr.heap.size := World.block_lt_of_cell? wr _ l0
                      have z4 : b2 < wr.heap.size := World.block_lt_of_cell? wr _ m0
                      clear HX HI1 HI2 hlt' hb1 hb2
                      cases hr : same x y
                      · have HF1 := Lib.hid (HF.out (fun e => by rw [same_iff.2 e] at hr; cases hr))
                        rw [hr] at HZ
                        clear hr HF HY
                        go_wp2_with fail
                        go_region_held3 (fun w' => w'.cell? ⟨w.heap.size, 0 + 4, none⟩ = some (.slice (some ⟨b1, off1, none⟩) a.ts.length h.tc) ∧ w'.cell? ⟨w.heap.size + 1, 0 + 4, none⟩ = some (.slice (some ⟨b2, off2, none⟩) a.ts.length h'.tc) ∧ w'.cell? ⟨b1, off1 + k * 5, none⟩ = some (.int .u8 x.k) ∧ w'.cell? ⟨b1, off1 + k * 5 + 1, none⟩ = some (.int .i64 x.n) ∧ w'.cell? ⟨b1, off1 + k * 5 + 2, none⟩ = some (.string x.s) ∧ w'.cell? ⟨b1, off1 + k * 5 + 3, none⟩ = some (.slice e1.lo x.ls.length e1.lc) ∧ w'.cell? ⟨b1, off1 + k * 5 + 4, none⟩ = some (.slice e1.to x.ts.length e1.tc) ∧ w'.cell? ⟨b2, off2 + k * 5, none⟩ = some (.int .u8 y.k) ∧ w'.cell? ⟨b2, off2 + k * 5 + 1, none⟩ = some (.int .i64 y.n) ∧ w'.cell? ⟨b2, off2 + k * 5 + 2, none⟩ = some (.string y.s) ∧ w'.cell? ⟨b2, off2 + k * 5 + 3, none⟩ = some (.slice e2.lo y.ls.length e2.lc) ∧ w'.cell? ⟨b2, off2 + k * 5 + 4, none⟩ = some (.slice e2.to y.ts.length e2.tc))
                          (go_keep)
                          ((go_at_call 29; refine (HZ.out _ ?_).mono ?_; exact (Below.refl _ _).drew; rintro e w1 ⟨rfl, bw⟩; have q1 := (bw.cell (p := ⟨w.heap.size, 0 + 4, none⟩) z1).trans c4; have q2 := (bw.cell (p := ⟨w.heap.size + 1, 0 + 4, none⟩) z2).trans d4; obtain ⟨r0, r1, r2, r3, r4⟩ := TCells.below ⟨l0, l1, l2, l3, l4⟩ (undrew bw) z3; obtain ⟨s0, s1, s2, s3, s4⟩ := TCells.below ⟨m0, m1, m2, m3, m4⟩ (undrew bw) z4))
                        have HK1 := Lib.hid (HK.out.step (undrew bw))
                        clear bw r0 r1 r2 r3 r4 s0 s1 s2 s3 s4 q1 q2 c4 d4 l0 l1 l2 l3 l4 m0 m1 m2 m3 m4
                        go_wp2_with fail
                        go_ret
                        exact ⟨ret_bool HF1.out, HK1.out.bel⟩
                      · have HY1 := Lib.hid (HY.out (same_iff.1 hr))
                        rw [hr] at HZ
                        clear hr HF HY
                        go_wp2_with fail
                        go_region_held3 (fun w' => w'.cell? ⟨w.heap.size, 0 + 4, none⟩ = some (.slice (some ⟨b1, off1, none⟩) a.ts.length h.tc) ∧ w'.cell? ⟨w.heap.size + 1, 0 + 4, none⟩ = some (.slice (some ⟨b2, off2, none⟩) a.ts.length h'.tc) ∧ w'.cell? ⟨b1, off1 + k * 5, none⟩ = some (.int .u8 x.k) ∧ w'.cell? ⟨b1, off1 + k * 5 + 1, none⟩ = some (.int .i64 x.n) ∧ w'.cell? ⟨b1, off1 + k * 5 + 2, none⟩ = some (.string x.s) ∧ w'.cell? ⟨b1, off1 + k * 5 + 3, none⟩ = some (.slice e1.lo x.ls.length e1.lc) ∧ w'.cell? ⟨b1, off1 + k * 5 + 4, none⟩ = some (.slice e1.to x.ts.length e1.tc) ∧ w'.cell? ⟨b2, off2 + k * 5, none⟩ = some (.int .u8 y.k) ∧ w'.cell? ⟨b2, off2 + k * 5 + 1, none⟩ = some (.int .i64 y.n) ∧ w'.cell? ⟨b2, off2 + k * 5 + 2, none⟩ = some (.string y.s) ∧ w'.cell? ⟨b2, off2 + k * 5 + 3, none⟩ = some (.slice e2.lo y.ls.length e2.lc) ∧ w'.cell? ⟨b2, off2 + k * 5 + 4, none⟩ = some (.slice e2.to y.ts.length e2.tc))
                          (go_keep)
                          ((go_at_call 29; refine (HZ.out _ ?_).mono ?_; exact (Below.refl _ _).drew; rintro e w1 ⟨rfl, bw⟩; have q1 := (bw.cell (p := ⟨w.heap.size, 0 + 4, none⟩) z1).trans c4; have q2 := (bw.cell (p := ⟨w.heap.size + 1, 0 + 4, none⟩) z2).trans d4; obtain ⟨r0, r1, r2, r3, r4⟩ := TCells.below ⟨l0, l1, l2, l3, l4⟩ (undrew bw) z3; obtain ⟨s0, s1, s2, s3, s4⟩ := TCells.below ⟨m0, m1, m2, m3, m4⟩ (undrew bw) z4))
                        have HK1 := Lib.hid (HK.out.step (undrew bw))
                        clear bw r0 r1 r2 r3 r4 s0 s1 s2 s3 s4 q1 q2 c4 d4 l0 l1 l2 l3 l4 m0 m1 m2 m3 m4
                        go_wp2_with fail
                        go_roundw
                        case rel => exact ⟨k + 1, by go_num, by omega, HY1.out, HK1.out⟩
                        case measure => simp [intOf]; omega
                    · have HE : Hid (true = G) := Lib.hid (by
                        rw [HG.out]
                        exact same_yes (Tm.ext H1.out H2.out H3.out HLS.out (all_same H5.out (by omega) HT.out)))
                      go_wp2_with fail
                      go_ret
                      exact ⟨ret_bool HE.out, HK.out.bel⟩
            · have HF1 : Hid (false = G) := Lib.hid (HN.out (fun e => h5 (by rw [e])))
              have q : ((a.ts.length : Int) != b.ts.length) = true := by simp; omega
              unfold Tm.val Tm.vals
              rw [← h1, ← h2, ← h3, ← h4]
              clear h5 h1 h2 h3 h4
              go_enter Tryz.func29, Tryz.ntmps29
              go_wp2_with fail
              go_ret
              exact ⟨ret_bool HF1.out, below_two _ _ _⟩
          · have HF1 : Hid (false = G) := Lib.hid (HN.out (fun e => h4 (by rw [e])))
            have q : ((a.ls.length : Int) != b.ls.length) = true := by simp; omega
            unfold Tm.val Tm.vals
            rw [← h1, ← h2, ← h3]
            clear h4 h1 h2 h3
            go_enter Tryz.func29, Tryz.ntmps29
            go_wp2_with fail
            go_ret
            exact ⟨ret_bool HF1.out, below_two _ _ _⟩
        · have HF1 : Hid (false = G) := Lib.hid (HN.out (fun e => h3 (by rw [e])))
          have q : ¬ a.s.toList = b.s.toList := fun e => h3 (Go.WideShapes.bytes_inj (by rwa [ByteArray.toList_eq, ByteArray.toList_eq] at e))
          unfold Tm.val Tm.vals
          rw [← h1, ← h2]
          clear h3 h1 h2
          go_enter Tryz.func29, Tryz.ntmps29
          go_wp2_with fail
          go_ret
          exact ⟨ret_bool HF1.out, below_two _ _ _⟩
      · have HF1 : Hid (false = G) := Lib.hid (HN.out (fun e => h2 (by rw [e])))
        have q : (a.n != b.n) = true := by simpa using h2
        unfold Tm.val Tm.vals
        rw [← h1]
        clear h2 h1
        go_enter Tryz.func29, Tryz.ntmps29
        go_wp2_with fail
        go_ret
        exact ⟨ret_bool HF1.out, below_two _ _ _⟩
    · have HF1 : Hid (false = G) := Lib.hid (HN.out (fun e => h1 (by rw [e])))
      have q : (a.k != b.k) = true := by simpa using h1
      unfold Tm.val Tm.vals
      clear h1 
      go_enter Tryz.func29, Tryz.ntmps29
      go_wp2_with fail
      go_ret
      exact ⟨ret_bool HF1.out, below_two _ _ _⟩
end Go.Proofs.YtiekbhlnnmnklaaGreat



namespace Go.Proofs.YtiekbhlnnmnklaaGreat
open Go.RowKit Go.Shelf Lvl Trm

/-- wr is w behind some draws. -/
def Trm.Drawn (w wr : World) : Prop := ∃ n, wr = w.drewN n
theorem Trm.Drawn.refl (w : World) : Drawn w w := ⟨0, by simp [World.drewN]⟩
theorem Trm.Drawn.of (w : World) (n : Nat) : Drawn w (w.drewN n) := ⟨n, rfl⟩
theorem Trm.Drawn.more {w wr : World} (h : Drawn w wr) (n : Nat) : Drawn w (wr.drewN n) := by
  obtain ⟨a, rfl⟩ := h
  exact ⟨a + n, by rw [World.drewN_drewN]⟩
theorem Trm.Drawn.heap {w wr : World} (h : Drawn w wr) : wr.heap = w.heap := by
  obtain ⟨a, rfl⟩ := h
  simp [World.drewN]
theorem Trm.Drawn.below {w wr : World} (h : Drawn w wr) (B : Nat) : Below B w wr := by
  obtain ⟨a, rfl⟩ := h
  exact drew_below _ _ _
theorem Trm.cell_heap {w wr : World} (h : wr.heap = w.heap) (p : Addr) : wr.cell? p = w.cell? p := by simp [World.cell?, h]
theorem Trm.LAt.heap {w wr : World} {b o : Nat} {l : Lv} (h : wr.heap = w.heap) (g : LAt w b o l) : LAt wr b o l :=
  ⟨(cell_heap h _).trans g.1, (cell_heap h _).trans g.2.1, (cell_heap h _).trans g.2.2.1, (cell_heap h _).trans g.2.2.2.1, (cell_heap h _).trans g.2.2.2.2⟩
theorem Trm.LRow.heap {w wr : World} {ao : Option Addr} {ls : List Lv} (h : wr.heap = w.heap) (g : LRow w ao ls) : LRow wr ao ls := by
  refine ⟨fun k hk => ?_⟩
  obtain ⟨b, off, hao, ha⟩ := g.place k hk
  exact ⟨b, off, hao, LAt.heap h ha⟩
theorem Trm.TCells.heap {w wr : World} {b o : Nat} {t : Tm} {h : Hd} (e : wr.heap = w.heap) (c : TCells w b o t h) : TCells wr b o t h :=
  ⟨(cell_heap e _).trans c.c0, (cell_heap e _).trans c.c1, (cell_heap e _).trans c.c2, (cell_heap e _).trans c.c3, (cell_heap e _).trans c.c4⟩
theorem Trm.In.heap {B : Nat} {w wr : World} (e : wr.heap = w.heap) (t : Tm) : ∀ h, t.In B w h → t.In B wr h := by
  induction t using Tm.ind with
  | h t ih =>
    intro h hi
    obtain ⟨h1, h2, h3, h4⟩ := Tm.In_iff.1 hi
    refine Tm.In_iff.2 ⟨h1, LRow.heap e h2, h3, RowIn.mk fun k hk => ?_⟩
    obtain ⟨b, off, hao, hb, h', hc, hin⟩ := h4.place k hk
    exact ⟨b, off, hao, hb, h', TCells.heap e hc, ih _ (List.getElem_mem hk) h' hin⟩

noncomputable def Trm.sameL (a b : List Lv) : Bool := @decide (a = b) (Classical.propDecidable _)
theorem Trm.sameL_iff {a b : List Lv} : sameL a b = true ↔ a = b := by unfold sameL; simp
theorem Trm.sameL_yes {a b : List Lv} (h : a = b) : true = sameL a b := (sameL_iff.2 h).symm
theorem Trm.sameL_no {a b : List Lv} (h : ¬ a = b) : false = sameL a b := by
  cases hs : sameL a b
  · rfl
  · exact absurd (sameL_iff.1 hs) h

def Trm.EqRel (w : World) (ls ls' : List Lv) (i : Value) (wr : World) : Prop :=
  ∃ k : Nat, i = .int .i64 k ∧ k ≤ ls.length ∧ ls.take k = ls'.take k ∧ Drawn w wr

set_option maxRecDepth 100000 in
set_option maxHeartbeats 2000000 in
theorem Equal_any (ao bo : Option Addr) (ca cb : Nat) (la lb : List Lv) (w : World) (ha : LRow w ao la) (hb : LRow w bo lb) (hna : la.length ≤ 9223372036854775807) :
    Calls Tryz.prog 117 #[.slice ao la.length ca, .slice bo lb.length cb] w fun e w' => e = .returned (.bool (sameL la lb)) ∧ Drawn w w' := by
  obtain ⟨G, hG⟩ : ∃ G, G = sameL la lb := ⟨_, rfl⟩
  rw [← hG]
  have HG := Lib.hid hG
  have HA := Lib.hid ha
  have HB := Lib.hid hb
  clear hG ha hb
  have HN : Hid (¬ la = lb → false = G) := Lib.hid (fun hn => by rw [HG.out]; exact sameL_no hn)
  by_cases hl : la.length = lb.length
  · have HL := Lib.hid hl
    rw [← hl]
    clear hl
    go_enter Tryz.func117, Tryz.ntmps117
    go_wp2_with fail
    go_loopw [13] (fun i wr => EqRel w la lb i wr) (fun i _ => la.length - (intOf i).toNat)
    case atStart => exact ⟨0, rfl, by omega, rfl, Drawn.refl _⟩
    case round =>
      obtain ⟨k, rfl, hk, htk, hdr⟩ := hrel
      have HT := Lib.hid htk
      have HD := Lib.hid hdr
      clear htk hdr
      by_cases hlt : k < la.length
      · have hlt' : k < lb.length := by have := HL.out; omega
        obtain ⟨b1, off1, hao1, l0, l1, l2, l3, l4⟩ := (Trm.LRow.heap HD.out.heap HA.out).place k hlt
        obtain ⟨b2, off2, hao2, m0, m1, m2, m3, m4⟩ := (Trm.LRow.heap HD.out.heap HB.out).place k hlt'
        have HY : Hid (la[k] = lb[k] → la.take (k + 1) = lb.take (k + 1)) := Lib.hid (take_same hlt hlt' HT.out)
        have HF : Hid (¬ la[k] = lb[k] → false = G) := Lib.hid (fun hn => HN.out fun e => hn (by subst e; rfl))
        generalize la[k] = x at l0 l1 l2 l3 l4 HY HF
        generalize lb[k] = y at m0 m1 m2 m3 m4 HY HF
        subst hao1
        subst hao2
        by_cases hxy : x = y
        · subst hxy
          have hsame := eq_self x.p0 x.p1 x.p2 x.p3
          have HY1 := Lib.hid (HY.out rfl)
          clear HF HY hlt'
          go_wp2_with fail
          go_quiet (fail)
          go_wp2_with fail
          go_roundw
          case rel => exact ⟨k + 1, by go_num, by omega, HY1.out, HD.out.more _⟩
          case measure => simp [intOf]; omega
        · have HF1 := Lib.hid (HF.out hxy)
          have hne : ((x.c == y.c) && (x.p0 == y.p0 && x.p1 == y.p1 && x.p2 == y.p2 && x.p3 == y.p3)) = false := by
            rw [Bool.eq_false_iff]
            intro hh
            simp only [Bool.and_eq_true, beq_iff_eq] at hh
            exact hxy (Lv.ext_all hh.1 hh.2.1.1.1 hh.2.1.1.2 hh.2.1.2 hh.2.2)
          have harr := eq_arr 9997 x.p0 x.p1 x.p2 x.p3 y.p0 y.p1 y.p2 y.p3
          generalize (x.p0 == y.p0 && x.p1 == y.p1 && x.p2 == y.p2 && x.p3 == y.p3) = r at hne harr
          have harr' : ∀ w, (Op.equalIn 9999 59 (.agg #[.int .i64 x.p0, .int .i64 x.p1, .int .i64 x.p2, .int .i64 x.p3]) (.agg #[.int .i64 y.p0, .int .i64 y.p1, .int .i64 y.p2, .int .i64 y.p3])).run Tryz.prog w = .ok r w := harr
          clear harr
          clear HF HY hlt' hxy
          by_cases hc : x.c = y.c
          · have hc' : (x.c == y.c) = true := by simpa using hc
            have hr : r = false := by rw [hc'] at hne; simpa using hne
            subst hr
            clear hne hc
            go_wp2_with fail
            go_quiet (fail)
            go_wp2_with fail
            go_ret
            exact ⟨ret_bool HF1.out, HD.out.more _⟩
          · have hc' : (x.c == y.c) = false := by simpa using hc
            clear hne hc
            go_wp2_with fail
            go_quiet (fail)
            go_wp2_with fail
            go_ret
            exact ⟨ret_bool HF1.out, HD.out.more _⟩
      · have HE : Hid (true = G) := Lib.hid (by
          rw [HG.out]
          exact sameL_yes (all_same HL.out (by omega) HT.out))
        go_wp2_with fail
        go_ret
        exact ⟨ret_bool HE.out, HD.out⟩
  · have HF1 := Lib.hid (HN.out (fun e => hl (by rw [e])))
    have q : ((la.length : Int) != lb.length) = true := by simp; omega
    clear hl
    go_enter Tryz.func117, Tryz.ntmps117
    go_wp2_with fail
    go_ret
    exact ⟨ret_bool HF1.out, Drawn.refl _⟩

end Go.Proofs.YtiekbhlnnmnklaaGreat



namespace Go.Proofs.YtiekbhlnnmnklaaGreat
open Go.RowKit Go.Shelf Lvl Trm

theorem Trm.carry {t : Tm} {h : Hd} {w w' : World} (hi : t.In w.heap.size w h) (b : Below w.heap.size w w') : t.In w'.heap.size w' h := Tm.In.mono b.size _ _ (Tm.In.below b _ _ hi)
theorem Trm.go {w W w1 : World} (h : Below w.heap.size w W) (b : Below W.heap.size W w1) : Below w.heap.size w w1 := h.trans (b.mono h.size)

end Go.Proofs.YtiekbhlnnmnklaaGreat



namespace Go.Proofs.YtiekbhlnnmnklaaGreat
open Go.RowKit Go.Shelf Lvl Trm

/-- Where the closure of lifting and what it holds lie. -/
def Trm.LiftInv (fr by_ : Int) (C F Y : Nat) (_ : Unit) (w : World) : Prop := w.heap[C]? = some (.cells #[.func (.func 225) #[] #[.pointer (some ⟨F, 0, none⟩), .pointer (some ⟨Y, 0, none⟩)]] 231) ∧ w.heap[F]? = some (.cells #[.int .i64 fr] 3) ∧ w.heap[Y]? = some (.cells #[.int .i64 by_] 3)
theorem Trm.LiftInv.keep {fr by_ : Int} {C F Y N : Nat} (hC : C < N) (hF : F < N) (hY : Y < N) (st : Unit) (w w' : World) (h : LiftInv fr by_ C F Y st w) (b : Below N w w') : LiftInv fr by_ C F Y st w' :=
  ⟨(b.block _ hC).trans h.1, (b.block _ hF).trans h.2.1, (b.block _ hY).trans h.2.2⟩

end Go.Proofs.YtiekbhlnnmnklaaGreat



namespace Go.Proofs.YtiekbhlnnmnklaaGreat
open Go.RowKit Go.Shelf Lvl Trm

namespace Trm
/-- What turned answers. -/
def tAns {σ : Type} (t : Tm) (R : σ × Int × Option Tm) : Tm := if R.2.1 = 0 then R.2.2.getD t else R.2.2.getD zeroT
/-- What answer answers. -/
def ansT (t : Tm) (e : Int) : Tm × Int := if e ≠ 0 then (zeroT, e) else if t.may = true then (t, 0) else (zeroT, 4)
end Trm

set_option maxRecDepth 100000 in
set_option maxHeartbeats 2000000 in
theorem turned_any {σ : Type} {B N C : Nat} {P : Nat → Prop} {f : FuncId} {lf : Lf σ} {Inv : σ → World → Prop} {Good : σ → Prop} (S : Leaf B N P C f lf Inv Good) (t : Tm) (h : Hd) (st : σ) (w : World)
    (hmay : t.may = true) (hg : Good st) (hi : Inv st w) (hin : t.In B w h) (hB : B ≤ w.heap.size) (hN : N ≤ w.heap.size) (hPw : ∀ q, P q → q < w.heap.size) :
    Calls Tryz.prog 114 #[t.val h, fnv f C] w fun e w' => ∃ h', e = .returned (.tuple #[(tAns t (t.thr lf st 0)).val h', .int .i64 (t.thr lf st 0).2.1]) ∧ FirmS (fun q => B ≤ q ∧ q < w.heap.size) w' (tAns t (t.thr lf st 0)) h' ∧ Inv (t.thr lf st 0).1 w' ∧ RanS P w w' := by
  have hAP : ¬ P (w.heap.size + 1) := fun hp => by have := hPw _ hp; omega
  have hTP : ¬ P w.heap.size := fun hp => by have := hPw _ hp; omega
  have HT := Lib.hid (fun (W : World) (hW : Below w.heap.size w W) (hX : W.heap[w.heap.size]? = some (t.box h)) =>
    through_any S t st w.heap.size 0 1 0 W hg (S.keep _ _ _ hi (hW.mono hN)) (OkMay.start hmay) (by omega) (by omega) ⟨hTP, (Array.getElem?_eq_some_iff.1 hX).1, h, Tm.cells hX, Tm.In.below (hW.mono hB) _ _ hin⟩ (by have := hW.size; omega) (by have := hW.size; omega) (fun q hq => by have := hPw q hq; have := hW.size; omega))
  have HK := Lib.hid (fun y hy => Tm.thr_kind (st := st) (u := 0) S.kind (OkMay.start hmay) (y := y) hy)
  have HKEEP := Lib.hid S.keep
  have HIN := Lib.hid hin
  have HPW := Lib.hid hPw
  generalize t.thr lf st 0 = R at HT HK ⊢
  obtain ⟨R1, R2, R3⟩ := R
  have HB2 := Lib.hid (below_two w (t.box h) (.cells #[.int .u8 0, .int .i64 0, .string no, .slice none 0 0, .slice none 0 0] 27))
  have HX0 := Lib.hid (new1of2 w (t.box h) (.cells #[.int .u8 0, .int .i64 0, .string no, .slice none 0 0, .slice none 0 0] 27))
  have HA0 := Lib.hid (new2 w (t.box h) (.cells #[.int .u8 0, .int .i64 0, .string no, .slice none 0 0, .slice none 0 0] 27))
  delta ThrPost at HT
  unfold tAns
  dsimp only at HT HK ⊢
  have HTH := Lib.hid (HT.out _ HB2.out HX0.out)
  clear HT hmay hg hi hin hPw
  by_cases he : R2 = 0
  · subst he
    cases R3 with
    | none =>
      dsimp only [Option.getD] at HTH ⊢
      rw [if_pos rfl]
      have hyk : (zeroT.k == 0) = true := rfl
      generalize zeroT = y at HTH hyk
      unfold Tm.val at HTH ⊢
      dsimp only [Tm.vals] at HTH ⊢
      go_enter Tryz.func114, Tryz.ntmps114
      go_wp2_with fail
      refine HTH.out.mono ?_
      rintro e w3 ⟨hy, rfl, fY, iY, rY⟩
      have hz3 := rY.size
      simp only [World.size_alloc] at hz3
      have hA3 := rY.keep HA0.out hAP
      have hX3 := rY.keep HX0.out hTP
      obtain ⟨wy, hwy⟩ : ∃ wy, wy = w3.alloc (y.box hy) := ⟨_, rfl⟩
      have hby : Below w3.heap.size w3 wy := hwy ▸ below_one _ _
      have hyb := hwy ▸ World.alloc_heap_new w3 (y.box hy)
      have hzy := hby.size
      have HR4 := Lib.hid ((RanS.of_below (P := P) HB2.out).trans (rY.trans (RanS.of_below hby)))
      have HI4 := Lib.hid (HKEEP.out _ _ _ iY (hby.mono (by omega)))
      have HA4 := Lib.hid (Lvl.keep hby hA3)
      obtain ⟨y0, y1, y2, y3, y4⟩ := five_cells (show wy.heap[w3.heap.size]? = some (.cells #[.int .u8 y.k, .int .i64 y.n, .string y.s, .slice hy.lo y.ls.length hy.lc, .slice hy.to y.ts.length hy.tc] 27) from hyb)
      obtain ⟨a0, a1, a2, a3, a4⟩ := five_cells HA4.out
      obtain ⟨f0, f1, f2, f3, f4⟩ := five_free HA4.out
      obtain ⟨x0, x1, x2, x3, x4⟩ := five_cells (show wy.heap[w.heap.size]? = some (.cells #[.int .u8 t.k, .int .i64 t.n, .string t.s, .slice h.lo t.ls.length h.lc, .slice h.to t.ts.length h.tc] 27) from Lvl.keep hby hX3)
      clear hA3 hX3 fY iY rY hby hyb
      have ew : w3.alloc (.cells #[.int .u8 y.k, .int .i64 y.n, .string y.s, .slice hy.lo y.ls.length hy.lc, .slice hy.to y.ts.length hy.tc] 27) = wy := hwy.symm
      go_upto_region 2 with fail
      first | rw [ew] | rw [← hwy]
      clear ew hwy
      go_wp2_with fail
      have h5 := putT_self HA4.out (.int .u8 t.k) (.int .i64 t.n) (.string t.s) (.slice h.lo t.ls.length h.lc) (.slice h.to t.ts.length h.tc)
      have r5 := putT_ran wy (w.heap.size + 1) (.int .u8 t.k) (.int .i64 t.n) (.string t.s) (.slice h.lo t.ls.length h.lc) (.slice h.to t.ts.length h.tc)
      have s5 := RanS.put HR4.out (by omega : w.heap.size ≤ w.heap.size + 1) (.int .u8 t.k) (.int .i64 t.n) (.string t.s) (.slice h.lo t.ls.length h.lc) (.slice h.to t.ts.length h.tc)
      unfold putT at h5 r5 s5
      generalize hW : ((((wy.setCell ⟨w.heap.size + 1, 0, none⟩ (.int .u8 t.k)).setCell ⟨w.heap.size + 1, 1, none⟩ (.int .i64 t.n)).setCell ⟨w.heap.size + 1, 2, none⟩ (.string t.s)).setCell ⟨w.heap.size + 1, 3, none⟩ (.slice h.lo t.ls.length h.lc)).setCell ⟨w.heap.size + 1, 4, none⟩ (.slice h.to t.ts.length h.tc) = W4 at h5 r5 s5 ⊢
      obtain ⟨e0, e1, e2, e3, e4⟩ := five_cells h5
      clear hW
      exact bodyPost_ret (v := .tuple #[t.val h, .int .i64 0]) (by simp [results, Tryz.results114, go_sem, e0, e1, e2, e3, e4, Tm.val, Tm.vals]) rfl
        ⟨h, rfl, (FirmS.of HIN.out (fun q hq => hq.1) hB).step (s5.wide (fun q hq => ⟨S.low q hq, HPW.out q hq⟩)), HKEEP.out _ _ _ HI4.out (r5.below (by omega) (by omega)), s5⟩
    | some y =>
      dsimp only [Option.getD] at HTH ⊢
      rw [if_pos rfl]
      have hyk : (y.k == 0) = false := by have := HK.out y rfl; simpa using this
      unfold Tm.val at HTH ⊢
      dsimp only [Tm.vals] at HTH ⊢
      go_enter Tryz.func114, Tryz.ntmps114
      go_wp2_with fail
      refine HTH.out.mono ?_
      rintro e w3 ⟨hy, rfl, fY, iY, rY⟩
      have hz3 := rY.size
      simp only [World.size_alloc] at hz3
      have hA3 := rY.keep HA0.out hAP
      obtain ⟨wy, hwy⟩ : ∃ wy, wy = w3.alloc (y.box hy) := ⟨_, rfl⟩
      have hby : Below w3.heap.size w3 wy := hwy ▸ below_one _ _
      have hyb := hwy ▸ World.alloc_heap_new w3 (y.box hy)
      have hzy := hby.size
      have HR4 := Lib.hid ((RanS.of_below (P := P) HB2.out).trans (rY.trans (RanS.of_below hby)))
      have HI4 := Lib.hid (HKEEP.out _ _ _ iY (hby.mono (by omega)))
      have HA4 := Lib.hid (Lvl.keep hby hA3)
      have HF4 := Lib.hid (fY.step (RanS.of_below hby))
      obtain ⟨y0, y1, y2, y3, y4⟩ := five_cells (show wy.heap[w3.heap.size]? = some (.cells #[.int .u8 y.k, .int .i64 y.n, .string y.s, .slice hy.lo y.ls.length hy.lc, .slice hy.to y.ts.length hy.tc] 27) from hyb)
      obtain ⟨a0, a1, a2, a3, a4⟩ := five_cells HA4.out
      obtain ⟨f0, f1, f2, f3, f4⟩ := five_free HA4.out
      clear hA3 fY iY rY hby hyb
      have ew : w3.alloc (.cells #[.int .u8 y.k, .int .i64 y.n, .string y.s, .slice hy.lo y.ls.length hy.lc, .slice hy.to y.ts.length hy.tc] 27) = wy := hwy.symm
      go_upto_region 2 with fail
      first | rw [ew] | rw [← hwy]
      clear ew hwy
      go_wp2_with fail
      have h5 := putT_self HA4.out (.int .u8 y.k) (.int .i64 y.n) (.string y.s) (.slice hy.lo y.ls.length hy.lc) (.slice hy.to y.ts.length hy.tc)
      have r5 := putT_ran wy (w.heap.size + 1) (.int .u8 y.k) (.int .i64 y.n) (.string y.s) (.slice hy.lo y.ls.length hy.lc) (.slice hy.to y.ts.length hy.tc)
      have s5 := RanS.put HR4.out (by omega : w.heap.size ≤ w.heap.size + 1) (.int .u8 y.k) (.int .i64 y.n) (.string y.s) (.slice hy.lo y.ls.length hy.lc) (.slice hy.to y.ts.length hy.tc)
      unfold putT at h5 r5 s5
      generalize hW : ((((wy.setCell ⟨w.heap.size + 1, 0, none⟩ (.int .u8 y.k)).setCell ⟨w.heap.size + 1, 1, none⟩ (.int .i64 y.n)).setCell ⟨w.heap.size + 1, 2, none⟩ (.string y.s)).setCell ⟨w.heap.size + 1, 3, none⟩ (.slice hy.lo y.ls.length hy.lc)).setCell ⟨w.heap.size + 1, 4, none⟩ (.slice hy.to y.ts.length hy.tc) = W4 at h5 r5 s5 ⊢
      obtain ⟨e0, e1, e2, e3, e4⟩ := five_cells h5
      clear hW
      exact bodyPost_ret (v := .tuple #[y.val hy, .int .i64 0]) (by simp [results, Tryz.results114, go_sem, e0, e1, e2, e3, e4, Tm.val, Tm.vals]) rfl
        ⟨hy, rfl, (HF4.out.step (RanS.of_ran r5 ⟨by omega, by simp⟩)).less (fun q _ hq => ⟨hq.1, by simp; omega⟩), HKEEP.out _ _ _ HI4.out (r5.below (by omega) (by omega)), s5⟩
  · rw [if_neg he]
    have he2 : (R2 == 0) = false := by simpa using he
    generalize R3.getD zeroT = y at HTH ⊢
    clear HK he
    unfold Tm.val at HTH ⊢
    dsimp only [Tm.vals] at HTH ⊢
    go_enter Tryz.func114, Tryz.ntmps114
    go_wp2_with fail
    refine HTH.out.mono ?_
    rintro e w3 ⟨hy, rfl, fY, iY, rY⟩
    have hz3 := rY.size
    simp only [World.size_alloc] at hz3
    have hA3 := rY.keep HA0.out hAP
    obtain ⟨wy, hwy⟩ : ∃ wy, wy = w3.alloc (y.box hy) := ⟨_, rfl⟩
    have hby : Below w3.heap.size w3 wy := hwy ▸ below_one _ _
    have hyb := hwy ▸ World.alloc_heap_new w3 (y.box hy)
    have hzy := hby.size
    have HR4 := Lib.hid ((RanS.of_below (P := P) HB2.out).trans (rY.trans (RanS.of_below hby)))
    have HI4 := Lib.hid (HKEEP.out _ _ _ iY (hby.mono (by omega)))
    have HA4 := Lib.hid (Lvl.keep hby hA3)
    have HF4 := Lib.hid (fY.step (RanS.of_below hby))
    obtain ⟨y0, y1, y2, y3, y4⟩ := five_cells (show wy.heap[w3.heap.size]? = some (.cells #[.int .u8 y.k, .int .i64 y.n, .string y.s, .slice hy.lo y.ls.length hy.lc, .slice hy.to y.ts.length hy.tc] 27) from hyb)
    obtain ⟨a0, a1, a2, a3, a4⟩ := five_cells HA4.out
    obtain ⟨f0, f1, f2, f3, f4⟩ := five_free HA4.out
    clear hA3 fY iY rY hby hyb
    have ew : w3.alloc (.cells #[.int .u8 y.k, .int .i64 y.n, .string y.s, .slice hy.lo y.ls.length hy.lc, .slice hy.to y.ts.length hy.tc] 27) = wy := hwy.symm
    go_upto_region 2 with fail
    first | rw [ew] | rw [← hwy]
    clear ew hwy
    go_wp2_with fail
    have h5 := putT_self HA4.out (.int .u8 y.k) (.int .i64 y.n) (.string y.s) (.slice hy.lo y.ls.length hy.lc) (.slice hy.to y.ts.length hy.tc)
    have r5 := putT_ran wy (w.heap.size + 1) (.int .u8 y.k) (.int .i64 y.n) (.string y.s) (.slice hy.lo y.ls.length hy.lc) (.slice hy.to y.ts.length hy.tc)
    have s5 := RanS.put HR4.out (by omega : w.heap.size ≤ w.heap.size + 1) (.int .u8 y.k) (.int .i64 y.n) (.string y.s) (.slice hy.lo y.ls.length hy.lc) (.slice hy.to y.ts.length hy.tc)
    unfold putT at h5 r5 s5
    generalize hW : ((((wy.setCell ⟨w.heap.size + 1, 0, none⟩ (.int .u8 y.k)).setCell ⟨w.heap.size + 1, 1, none⟩ (.int .i64 y.n)).setCell ⟨w.heap.size + 1, 2, none⟩ (.string y.s)).setCell ⟨w.heap.size + 1, 3, none⟩ (.slice hy.lo y.ls.length hy.lc)).setCell ⟨w.heap.size + 1, 4, none⟩ (.slice hy.to y.ts.length hy.tc) = W4 at h5 r5 s5 ⊢
    obtain ⟨e0, e1, e2, e3, e4⟩ := five_cells h5
    clear hW
    exact bodyPost_ret (v := .tuple #[y.val hy, .int .i64 R2]) (by simp [results, Tryz.results114, go_sem, e0, e1, e2, e3, e4, Tm.val, Tm.vals]) rfl
      ⟨hy, rfl, (HF4.out.step (RanS.of_ran r5 ⟨by omega, by simp⟩)).less (fun q _ hq => ⟨hq.1, by simp; omega⟩), HKEEP.out _ _ _ HI4.out (r5.below (by omega) (by omega)), s5⟩

set_option maxRecDepth 100000 in
set_option maxHeartbeats 1000000 in
theorem sub_answer_any (t : Tm) (h : Hd) (e0 : Int) (w : World) (hin : t.In w.heap.size w h) :
    Calls Tryz.prog 113 #[t.val h, .int .i64 e0] w fun e w' => ∃ h', e = .returned (.tuple #[(ansT t e0).1.val h', .int .i64 (ansT t e0).2]) ∧ (∀ P, FirmS P w t h → FirmS P w' (ansT t e0).1 h') ∧ Below w.heap.size w w' := by
  have HM := Lib.hid (fun (W : World) (hW : Below w.heap.size w W) => PMay_any t h W (Tm.In.mono hW.size _ _ (Tm.In.below hW _ _ hin)))
  have HB2 := Lib.hid (below_two w (t.box h) (.cells #[.int .u8 0, .int .i64 0, .string no, .slice none 0 0, .slice none 0 0] 27))
  have HX0 := Lib.hid (new1of2 w (t.box h) (.cells #[.int .u8 0, .int .i64 0, .string no, .slice none 0 0, .slice none 0 0] 27))
  have HA0 := Lib.hid (new2 w (t.box h) (.cells #[.int .u8 0, .int .i64 0, .string no, .slice none 0 0, .slice none 0 0] 27))
  clear hin
  by_cases he : e0 ≠ 0
  · have hs : ansT t e0 = (zeroT, e0) := if_pos he
    rw [hs]
    have he2 : (e0 != 0) = true := by simpa using he
    unfold Tm.val
    dsimp only [Tm.vals]
    clear hs he
    go_enter Tryz.func113, Tryz.ntmps113
    go_wp2_with fail
    have h5 := HA0.out
    have b5 := HB2.out
    unfold no Tm.box at h5 b5
    dsimp only [Tm.vals] at h5 b5
    generalize hW : (w.alloc (.cells #[.int .u8 t.k, .int .i64 t.n, .string t.s, .slice h.lo t.ls.length h.lc, .slice h.to t.ts.length h.tc] 27)).alloc (.cells #[.int .u8 0, .int .i64 0, .string ⟨#[]⟩, .slice none 0 0, .slice none 0 0] 27) = W4 at h5 b5 ⊢
    obtain ⟨e0', e1, e2, e3, e4⟩ := five_cells h5
    clear hW
    exact bodyPost_ret (v := .tuple #[zeroT.val ⟨none, 0, none, 0⟩, .int .i64 e0]) (by simp [results, Tryz.results113, go_sem, e0', e1, e2, e3, e4, zeroT, Tm.val, Tm.vals, Tm.k, Tm.n, Tm.s, Tm.ls, Tm.ts, no]) rfl ⟨⟨none, 0, none, 0⟩, rfl, fun _ _ => firm_zero, b5⟩
  · have h0 : e0 = 0 := by omega
    subst h0
    cases hmay : t.may
    · have hs : ansT t 0 = (zeroT, 4) := by unfold ansT; rw [if_neg (by decide), if_neg (by simp [hmay])]
      rw [hs]
      rw [hmay] at HM
      unfold Tm.val at HM ⊢
      dsimp only [Tm.vals] at HM ⊢
      clear hs he hmay
      go_enter Tryz.func113, Tryz.ntmps113
      go_wp2_with fail
      refine (HM.out _ HB2.out).mono ?_
      rintro e w3 ⟨rfl, b3⟩
      have hA3 := Lvl.keep b3 HA0.out
      have HB3 := Lib.hid (Trm.go HB2.out b3)
      obtain ⟨a0, a1, a2, a3, a4⟩ := five_cells hA3
      obtain ⟨f0, f1, f2, f3, f4⟩ := five_free hA3
      have HA3 := Lib.hid hA3
      clear hA3 b3
      go_wp2_with fail
      have h5 := putT_self HA3.out (.int .u8 0) (.int .i64 0) (.string no) (.slice none 0 0) (.slice none 0 0)
      have b5 := putT_below HB3.out (by omega : w.heap.size ≤ w.heap.size + 1) (.int .u8 0) (.int .i64 0) (.string no) (.slice none 0 0) (.slice none 0 0)
      unfold putT no at h5 b5
      generalize hW : ((((w3.setCell ⟨w.heap.size + 1, 0, none⟩ (.int .u8 0)).setCell ⟨w.heap.size + 1, 1, none⟩ (.int .i64 0)).setCell ⟨w.heap.size + 1, 2, none⟩ (.string ⟨#[]⟩)).setCell ⟨w.heap.size + 1, 3, none⟩ (.slice none 0 0)).setCell ⟨w.heap.size + 1, 4, none⟩ (.slice none 0 0) = W4 at h5 b5 ⊢
      obtain ⟨e0', e1, e2, e3, e4⟩ := five_cells h5
      clear hW
      exact bodyPost_ret (v := .tuple #[zeroT.val ⟨none, 0, none, 0⟩, .int .i64 4]) (by simp [results, Tryz.results113, go_sem, e0', e1, e2, e3, e4, zeroT, Tm.val, Tm.vals, Tm.k, Tm.n, Tm.s, Tm.ls, Tm.ts, no]) rfl ⟨⟨none, 0, none, 0⟩, rfl, fun _ _ => firm_zero, b5⟩
    · have hs : ansT t 0 = (t, 0) := by unfold ansT; rw [if_neg (by decide), if_pos hmay]
      rw [hs]
      rw [hmay] at HM
      unfold Tm.val at HM ⊢
      dsimp only [Tm.vals] at HM ⊢
      clear hs he hmay
      go_enter Tryz.func113, Tryz.ntmps113
      go_wp2_with fail
      refine (HM.out _ HB2.out).mono ?_
      rintro e w3 ⟨rfl, b3⟩
      have hA3 := Lvl.keep b3 HA0.out
      have HB3 := Lib.hid (Trm.go HB2.out b3)
      obtain ⟨a0, a1, a2, a3, a4⟩ := five_cells hA3
      obtain ⟨f0, f1, f2, f3, f4⟩ := five_free hA3
      obtain ⟨x0, x1, x2, x3, x4⟩ := five_cells (show w3.heap[w.heap.size]? = some (.cells #[.int .u8 t.k, .int .i64 t.n, .string t.s, .slice h.lo t.ls.length h.lc, .slice h.to t.ts.length h.tc] 27) from Lvl.keep b3 HX0.out)
      have HA3 := Lib.hid hA3
      clear hA3 b3
      go_wp2_with fail
      have h5 := putT_self HA3.out (.int .u8 t.k) (.int .i64 t.n) (.string t.s) (.slice h.lo t.ls.length h.lc) (.slice h.to t.ts.length h.tc)
      have b5 := putT_below HB3.out (by omega : w.heap.size ≤ w.heap.size + 1) (.int .u8 t.k) (.int .i64 t.n) (.string t.s) (.slice h.lo t.ls.length h.lc) (.slice h.to t.ts.length h.tc)
      unfold putT at h5 b5
      generalize hW : ((((w3.setCell ⟨w.heap.size + 1, 0, none⟩ (.int .u8 t.k)).setCell ⟨w.heap.size + 1, 1, none⟩ (.int .i64 t.n)).setCell ⟨w.heap.size + 1, 2, none⟩ (.string t.s)).setCell ⟨w.heap.size + 1, 3, none⟩ (.slice h.lo t.ls.length h.lc)).setCell ⟨w.heap.size + 1, 4, none⟩ (.slice h.to t.ts.length h.tc) = W4 at h5 b5 ⊢
      obtain ⟨e0', e1, e2, e3, e4⟩ := five_cells h5
      clear hW
      exact bodyPost_ret (v := .tuple #[t.val h, .int .i64 0]) (by simp [results, Tryz.results113, go_sem, e0', e1, e2, e3, e4, Tm.val, Tm.vals]) rfl ⟨h, rfl, fun _ g => g.step (RanS.of_below b5), b5⟩
end Go.Proofs.YtiekbhlnnmnklaaGreat



namespace Go.Proofs.YtiekbhlnnmnklaaGreat
open Go.RowKit Go.Shelf Lvl Trm

end Go.Proofs.YtiekbhlnnmnklaaGreat



namespace Go.Proofs.YtiekbhlnnmnklaaGreat
open Lvl Trm

namespace Trm
/-- What comes in the place of a free variable. -/
def gInst (l : List Tm) : Int → Int → Tm := fun v u => if h : 0 ≤ v ∧ v < l.length then (l[l.length - 1 - v.toNat]'(by omega)).put (gLift 0 u) 0 else tV (v - l.length + u)
/-- How many nodes a list of free variables brings. -/
def more (l : List Tm) : List (Int × Int) → Int
  | [] => 0
  | p :: r => (gInst l p.1 p.2).size - 1 + more l r

theorem may_size' {t : Tm} (h : t.may = true) : t.size ≤ 65536 := by
  have h0 : 0 ≤ t.left badMay 65536 4096 := of_decide_eq_true h
  have := t.left_size badMay 65536 4096 h0
  omega
end Trm
end Go.Proofs.YtiekbhlnnmnklaaGreat



namespace Go.Proofs.YtiekbhlnnmnklaaGreat
open Go.RowKit Go.Shelf Lvl Trm

namespace Trm
end Trm

end Go.Proofs.YtiekbhlnnmnklaaGreat



namespace Go.Proofs.YtiekbhlnnmnklaaGreat
open Lvl Trm

namespace Trm
def ss : ByteArray := ⟨#[115]⟩
end Trm
end Go.Proofs.YtiekbhlnnmnklaaGreat



namespace Go.Proofs.YtiekbhlnnmnklaaGreat
open Lvl Trm

namespace Trm
end Trm

namespace Trm
end Trm

namespace Trm
end Trm

namespace Trm
mutual
/-- How many nodes stand in one another. -/
def Tm.ht : Tm → Int
  | .mk _ _ _ _ ts => 1 + htL ts
def htL : List Tm → Int
  | [] => 0
  | t :: r => max t.ht (htL r)
end
mutual
/-- Each node has the fields of its kind. -/
def Tm.sound : Tm → Prop
  | .mk k n s ls ts => (Tm.mk k n s ls ts).node = true ∧ soundL ts
def soundL : List Tm → Prop
  | [] => True
  | t :: r => t.sound ∧ soundL r
end
mutual
theorem ht_pos : ∀ t : Tm, 1 ≤ t.ht
  | .mk k n s ls ts => by rw [Tm.ht]; have := htL_ge ts; omega
theorem htL_ge : ∀ ts : List Tm, 0 ≤ htL ts
  | [] => by rw [htL]; omega
  | t :: r => by rw [htL]; have := htL_ge r; omega
end
mutual
theorem ht_size : ∀ t : Tm, t.ht ≤ t.size
  | .mk k n s ls ts => by rw [Tm.ht, Tm.size]; have := htL_size ts; omega
theorem htL_size : ∀ ts : List Tm, htL ts ≤ sizeL ts
  | [] => by rw [htL, sizeL]; omega
  | t :: r => by
    rw [htL, sizeL]
    have := ht_size t
    have := htL_size r
    have := t.size_pos
    have := htL_ge r
    omega
end
mutual
theorem left_sound : ∀ (t : Tm) (l d : Int), t.sound → t.size ≤ l → t.ht ≤ d → t.left badMay l d = l - t.size
  | .mk k n s ls ts, l, d, hs, hl, hd => by
    rw [Tm.sound] at hs
    rw [Tm.size] at hl ⊢
    rw [Tm.ht] at hd
    have h1 := htL_ge ts
    have h2 := htL_size ts
    have hb : badMay (.mk k n s ls ts) = false := by unfold badMay; rw [hs.1]; rfl
    have hc : ¬ (l - 1 < 0 ∨ d ≤ 0 ∨ badMay (.mk k n s ls ts) = true) := by
      rw [hb]
      rintro (h | h | h)
      · omega
      · omega
      · cases h
    rw [Tm.left, if_neg hc, leftL_sound ts (l - 1) (d - 1) hs.2 (by omega) (by omega)]
    omega
theorem leftL_sound : ∀ (ts : List Tm) (l d : Int), soundL ts → sizeL ts ≤ l → htL ts ≤ d → leftL badMay ts l d = l - sizeL ts
  | [], l, d, _, _, _ => by rw [leftL, sizeL]; omega
  | t :: r, l, d, hs, hl, hd => by
    rw [soundL] at hs
    rw [sizeL] at hl ⊢
    rw [htL] at hd
    have h2 := htL_size r
    have h3 := htL_ge r
    have h1 := left_sound t l d hs.1 (by omega) (by omega)
    rw [leftL, h1, if_neg (by omega), leftL_sound r _ d hs.2 (by omega) (by omega)]
    omega
end
mutual
theorem sound_left : ∀ (t : Tm) (l d : Int), 0 ≤ t.left badMay l d → t.sound ∧ t.ht ≤ d
  | .mk k n s ls ts, l, d, h => by
    rw [Tm.left] at h
    split at h
    · omega
    · rename_i hc
      have hn : (Tm.mk k n s ls ts).node = true := by
        cases hb : (Tm.mk k n s ls ts).node
        · exact absurd (Or.inr (Or.inr (by unfold badMay; rw [hb]; rfl))) hc
        · rfl
      have h1 := soundL_left ts (l - 1) (d - 1) h (by omega)
      rw [Tm.sound, Tm.ht]
      exact ⟨⟨hn, h1.1⟩, by have := h1.2; omega⟩
theorem soundL_left : ∀ (ts : List Tm) (l d : Int), 0 ≤ leftL badMay ts l d → 0 ≤ d → soundL ts ∧ htL ts ≤ d
  | [], l, d, _, hd => by rw [soundL, htL]; exact ⟨trivial, hd⟩
  | t :: r, l, d, h, hd => by
    rw [leftL] at h
    split at h
    · omega
    · have h1 := sound_left t l d (by omega)
      have h2 := soundL_left r _ d h hd
      rw [soundL, htL]
      exact ⟨⟨h1.1, h2.1⟩, by have := h1.2; have := h2.2; omega⟩
end
theorem may_of {t : Tm} (hs : t.sound) (hz : t.size ≤ 65536) (hh : t.ht ≤ 4096) : t.may = true := by
  have := left_sound t 65536 4096 hs hz hh
  show decide (0 ≤ t.left badMay 65536 4096) = true
  rw [this]
  simp
  omega
theorem may_sound {t : Tm} (h : t.may = true) : t.sound ∧ t.ht ≤ 4096 := sound_left t 65536 4096 (of_decide_eq_true h)

end Trm
end Go.Proofs.YtiekbhlnnmnklaaGreat



namespace Go.Proofs.YtiekbhlnnmnklaaGreat
open Go.RowKit Go.Shelf Lvl
attribute [local go_sem] Oper.semAt_some

theorem Lvl.free_one {W : World} {B t : Nat} {v : Value} (h : W.heap[B]? = some (.cells #[v] t)) : W.frozen? ⟨B, 0, none⟩ = false := by
  simp [World.frozen?, h]
theorem Lvl.put_one {W : World} {B t : Nat} {v : Value} (h : W.heap[B]? = some (.cells #[v] t)) (u : Value) : (W.setCell ⟨B, 0, none⟩ u).heap[B]? = some (.cells #[u] t) := by
  simp [World.setCell, Array.getElem?_modify, h]

def Lvl.instStep (ls : List Lv) (o : Option Lv) (x : Int × Int) : Option Lv :=
  match o with
  | none => none
  | some o => if h : x.1.toNat < ls.length then some (o.join ((ls[x.1.toNat]).plus x.2)) else none
def Lvl.instAll (ls : List Lv) (o : Lv) (pre : List (Int × Int)) : Option Lv := pre.foldl (instStep ls) (some o)
theorem Lvl.instAll_snoc (ls : List Lv) (o : Lv) (pre : List (Int × Int)) (x : Int × Int) : instAll ls o (pre ++ [x]) = instStep ls (instAll ls o pre) x := by
  unfold instAll; rw [List.foldl_append]; rfl
theorem Lvl.instFold_none (ls : List Lv) (r : List (Int × Int)) : r.foldl (instStep ls) none = none := by
  induction r with
  | nil => rfl
  | cons x r ih => exact ih
theorem Lvl.instAll_prefix {ls : List Lv} {o : Lv} {pre l : List (Int × Int)} (hp : pre <+: l) (h : instAll ls o pre = none) : instAll ls o l = none := by
  obtain ⟨r, rfl⟩ := hp
  unfold instAll at *
  rw [List.foldl_append, h]
  exact instFold_none ls r
/-- A level with levels as its parameters. -/
def Lvl.inst (l : Lv) (ls : List Lv) : Lv × Int :=
  if l.may = true ∧ ls.all Lv.may = true then
    match instAll ls (number l.c) l.ps with
    | some o => ans o
    | none => (zero, 8)
  else (zero, 1)
theorem Lvl.mem_ps_k {l : Lv} {x : Int × Int} (h : x ∈ l.ps) : ∃ k : Nat, k < 4 ∧ x = ((k : Int), l.at_ k) ∧ l.at_ k ≠ -1 := by
  rcases mem_ps h with ⟨rfl, hp⟩ | ⟨rfl, hp⟩ | ⟨rfl, hp⟩ | ⟨rfl, hp⟩
  · exact ⟨0, by omega, rfl, hp⟩
  · exact ⟨1, by omega, rfl, hp⟩
  · exact ⟨2, by omega, rfl, hp⟩
  · exact ⟨3, by omega, rfl, hp⟩
def Lvl.Lv.low (o : Lv) : Prop := -1 ≤ o.p0 ∧ -1 ≤ o.p1 ∧ -1 ≤ o.p2 ∧ -1 ≤ o.p3
theorem Lvl.Lv.low_join {a b : Lv} (h : a.low) : (a.join b).low := by
  obtain ⟨h0, h1, h2, h3⟩ := h
  unfold Lv.low Lv.join
  simp only
  omega

set_option maxRecDepth 100000 in
set_option maxHeartbeats 1000000 in
theorem inst_no (l : Lv) (ao : Option Addr) (cap : Nat) (ls : List Lv) (w : World) (hl : l.may = false) :
    Calls Tryz.prog 116 #[l.val, .slice ao ls.length cap] w fun e w' => e = .returned (.tuple #[zero.val, .int .i64 1]) ∧ Below w.heap.size w w' := by
  have hmay := fun w => may_any l w
  rw [hl] at hmay
  have HM := Lib.hid hmay
  have B0 := Lib.hid ((below_two w l.box (.cells #[.slice ao ls.length cap] 24)).alloc (by simp; omega) zero.box |>.alloc (by simp; omega) (.cells #[.int .i64 0] 38))
  have HZ := Lib.hid (keepA (new3 w l.box (.cells #[.slice ao ls.length cap] 24) zero.box) (.cells #[.int .i64 0] 38))
  have HE := Lib.hid (new4 w l.box (.cells #[.slice ao ls.length cap] 24) zero.box (.cells #[.int .i64 0] 38))
  clear hmay hl
  unfold Lv.val
  go_enter Tryz.func116, Tryz.ntmps116
  go_wp2_with fail
  refine (HM.out _).mono ?_
  rintro e w1 ⟨rfl, b1⟩
  have HZ1 := Lib.hid (keep b1 HZ.out)
  have HE1 := Lib.hid (keep b1 HE.out)
  have B1 := Lib.hid (B0.out.trans (b1.mono (by simp; omega)))
  obtain ⟨d0, d1, d2, d3, d4⟩ := Lv.cells HZ1.out
  obtain ⟨f0, f1, f2, f3, f4⟩ := Lv.frees HZ1.out
  have e0 := one_cell HE1.out
  have g0 := free_one HE1.out
  clear b1
  go_wp2_with fail
  have h5 := cells_other (put5_self HZ1.out zero) (.int .i64 1) (b := w.heap.size + 1 + 1 + 1) (o := 0) (by omega)
  have h6 := put_one (put5_other HE1.out zero (b := w.heap.size + 1 + 1) (by omega)) (.int .i64 1)
  have b5 := (put5_below B1.out (B := w.heap.size + 1 + 1) (by omega) zero).setCell (p := ⟨w.heap.size + 1 + 1 + 1, 0, none⟩) (show w.heap.size ≤ w.heap.size + 1 + 1 + 1 by omega) (.int .i64 1)
  generalize hW : (((((w1.setCell ⟨w.heap.size + 1 + 1, 0, none⟩ (.int .i64 0)).setCell ⟨w.heap.size + 1 + 1, 1, none⟩ (.int .i64 0)).setCell ⟨w.heap.size + 1 + 1, 2, none⟩ (.int .i64 0)).setCell ⟨w.heap.size + 1 + 1, 3, none⟩ (.int .i64 0)).setCell ⟨w.heap.size + 1 + 1, 4, none⟩ (.int .i64 0)).setCell ⟨w.heap.size + 1 + 1 + 1, 0, none⟩ (.int .i64 1) = W4
  rw [show (put5 w1 (w.heap.size + 1 + 1) zero).setCell ⟨w.heap.size + 1 + 1 + 1, 0, none⟩ (.int .i64 1) = W4 from hW] at h5 h6 b5
  obtain ⟨r0, r1, r2, r3, r4⟩ := Lv.cells h5
  have r5 := one_cell h6
  exact bodyPost_ret (v := .tuple #[.agg #[.int .i64 0, .int .i64 0, .int .i64 0, .int .i64 0, .int .i64 0], .int .i64 1]) (by simp [results, Tryz.results116, go_sem, r0, r1, r2, r3, r4, r5, zero]) rfl ⟨rfl, b5⟩

set_option maxRecDepth 100000 in
set_option maxHeartbeats 1000000 in
theorem inst_no2 (l : Lv) (ao : Option Addr) (cap : Nat) (ls : List Lv) (w : World) (hr : LRow w ao ls) (hn : ls.length ≤ 9000000000000000000) (hl : l.may = true) (hls : ls.all Lv.may = false) :
    Calls Tryz.prog 116 #[l.val, .slice ao ls.length cap] w fun e w' => e = .returned (.tuple #[zero.val, .int .i64 1]) ∧ Below w.heap.size w w' := by
  have hmay := fun w => may_any l w
  rw [hl] at hmay
  have hall := fun w hr => allMay_any ao cap ls w hr hn
  rw [hls] at hall
  have HM := Lib.hid hmay
  have HA := Lib.hid hall
  have HR := Lib.hid hr
  have B0 := Lib.hid ((below_two w l.box (.cells #[.slice ao ls.length cap] 24)).alloc (by simp; omega) zero.box |>.alloc (by simp; omega) (.cells #[.int .i64 0] 38))
  have HZ := Lib.hid (keepA (new3 w l.box (.cells #[.slice ao ls.length cap] 24) zero.box) (.cells #[.int .i64 0] 38))
  have HE := Lib.hid (new4 w l.box (.cells #[.slice ao ls.length cap] 24) zero.box (.cells #[.int .i64 0] 38))
  have HS := Lib.hid (keepA (keepA (new2 w l.box (.cells #[.slice ao ls.length cap] 24)) zero.box) (.cells #[.int .i64 0] 38))
  clear hmay hl hr hall hls
  unfold Lv.val
  go_enter Tryz.func116, Tryz.ntmps116
  go_wp2_with fail
  refine (HM.out _).mono ?_
  rintro e w1 ⟨rfl, b1⟩
  have HZ1 := Lib.hid (keep b1 HZ.out)
  have HE1 := Lib.hid (keep b1 HE.out)
  have HS1 := Lib.hid (keep b1 HS.out)
  have B1 := Lib.hid (B0.out.trans (b1.mono (by simp; omega)))
  have s0 := one_cell HS1.out
  clear b1
  go_wp2_with fail
  refine (HA.out _ (HR.out.below B1.out)).mono ?_
  rintro e w2 ⟨rfl, b2⟩
  have HZ2 := Lib.hid (keep b2 HZ1.out)
  have HE2 := Lib.hid (keep b2 HE1.out)
  have B2 := Lib.hid (B1.out.trans (b2.mono B1.out.size))
  obtain ⟨d0, d1, d2, d3, d4⟩ := Lv.cells HZ2.out
  obtain ⟨f0, f1, f2, f3, f4⟩ := Lv.frees HZ2.out
  have e0 := one_cell HE2.out
  have g0 := free_one HE2.out
  clear b2
  go_wp2_with fail
  have h5 := cells_other (put5_self HZ2.out zero) (.int .i64 1) (b := w.heap.size + 1 + 1 + 1) (o := 0) (by omega)
  have h6 := put_one (put5_other HE2.out zero (b := w.heap.size + 1 + 1) (by omega)) (.int .i64 1)
  have b5 := (put5_below B2.out (B := w.heap.size + 1 + 1) (by omega) zero).setCell (p := ⟨w.heap.size + 1 + 1 + 1, 0, none⟩) (show w.heap.size ≤ w.heap.size + 1 + 1 + 1 by omega) (.int .i64 1)
  generalize hW : (((((w2.setCell ⟨w.heap.size + 1 + 1, 0, none⟩ (.int .i64 0)).setCell ⟨w.heap.size + 1 + 1, 1, none⟩ (.int .i64 0)).setCell ⟨w.heap.size + 1 + 1, 2, none⟩ (.int .i64 0)).setCell ⟨w.heap.size + 1 + 1, 3, none⟩ (.int .i64 0)).setCell ⟨w.heap.size + 1 + 1, 4, none⟩ (.int .i64 0)).setCell ⟨w.heap.size + 1 + 1 + 1, 0, none⟩ (.int .i64 1) = W4
  rw [show (put5 w2 (w.heap.size + 1 + 1) zero).setCell ⟨w.heap.size + 1 + 1 + 1, 0, none⟩ (.int .i64 1) = W4 from hW] at h5 h6 b5
  obtain ⟨r0, r1, r2, r3, r4⟩ := Lv.cells h5
  have r5 := one_cell h6
  exact bodyPost_ret (v := .tuple #[.agg #[.int .i64 0, .int .i64 0, .int .i64 0, .int .i64 0, .int .i64 0], .int .i64 1]) (by simp [results, Tryz.results116, go_sem, r0, r1, r2, r3, r4, r5, zero]) rfl ⟨rfl, b5⟩

theorem Lvl.below_b {w W : World} (h : Below w.heap.size w W) (o : Obj) : Below w.heap.size w (W.alloc o) := h.alloc h.size _
theorem Lvl.at_low {l : Lv} (hw : l.within = true) {k : Nat} (hk : k < 4) (hne : l.at_ k ≠ -1) : 0 ≤ l.at_ k ∧ l.at_ k ≤ 1099511627776 := by
  simp only [Lv.within, decide_eq_true_eq] at hw
  have h : k = 0 ∨ k = 1 ∨ k = 2 ∨ k = 3 := by omega
  rcases h with rfl | rfl | rfl | rfl <;> (simp only [Lv.at_] at *; omega)
/-- Between two rounds of Inst's loop. -/
def Lvl.InstI (T Z E S : Nat) (ao : Option Addr) (ls : List Lv) (cap : Nat) (c : Int) (pre : List (Int × Int)) (W : World) : Prop :=
  ∃ o : Lv, instAll ls (number c) pre = some o ∧ o.low ∧ W.heap[T]? = some o.box ∧ W.heap[Z]? = some zero.box ∧ W.heap[E]? = some (.cells #[.int .i64 0] 38) ∧ W.heap[S]? = some (.cells #[.slice ao ls.length cap] 24)
theorem Lvl.InstI.kept {T Z E S : Nat} {ao : Option Addr} {ls : List Lv} {cap : Nat} {c : Int} {pre : List (Int × Int)} {W W' : World} {row : Option Nat} (h : InstI T Z E S ao ls cap c pre W) (hg : W.grownBy W' row) (hr : ∀ r, row = some r → ∃ o : Obj, W.heap[r]? = some o ∧ o.isCells = false) : InstI T Z E S ao ls cap c pre W' := by
  obtain ⟨o, h1, h2, h3, h4, h5, h6⟩ := h
  exact ⟨o, h1, h2, block_kept h3 hg hr, block_kept h4 hg hr, (grownBy_keeps_cells hg hr h5 rfl).trans h5, (grownBy_keeps_cells hg hr h6 rfl).trans h6⟩

theorem Lvl.keepsOthers_of {W v : World} (b : Below W.heap.size W v) : KeepsOthers W v := ⟨b.size, fun _ _ h _ => keep b h⟩
theorem Lvl.keeps_put (W : World) (B : Nat) (l : Lv) : KeepsOthers W (put5 W B l) := keeps_all W B _ _ _ _ _
/-- Behind a round that goes on. -/
theorem Lvl.inst_round {w W v1 v2 : World} {T Z E S : Nat} {ao : Option Addr} {ls : List Lv} {cap : Nat} {c : Int} {pre : List (Int × Int)} {o J : Lv}
    (hB : Below w.heap.size w W) (b1 : Below W.drew.heap.size W.drew v1) (b2 : Below v1.heap.size v1 v2) (hO : v2.heap[T]? = some o.box) (hT : w.heap.size ≤ T)
    (hZ : W.heap[Z]? = some zero.box) (hE : W.heap[E]? = some (.cells #[.int .i64 0] 38)) (hS : W.heap[S]? = some (.cells #[.slice ao ls.length cap] 24))
    (hTZ : T ≠ Z) (hTE : T ≠ E) (hTS : T ≠ S) (hst : instAll ls (number c) pre = some J) (hlow : J.low) :
    KeepsOthers W (put5 v2 T J) ∧ True ∧ (InstI T Z E S ao ls cap c pre (put5 v2 T J) ∧ Below w.heap.size w (put5 v2 T J)) := by
  have b0 : Below W.heap.size W v2 := (undrew b1).trans (b2.mono b1.size)
  refine ⟨(keepsOthers_of b0).trans (keeps_put _ _ _), trivial, ⟨J, hst, hlow, put5_self hO J, put5_other (keep b0 hZ) J hTZ, put5_other (keep b0 hE) J hTE, put5_other (keep b0 hS) J hTS⟩, put5_below (hB.trans (b0.mono hB.size)) hT J⟩
/-- Behind a round that leaves: there are too few levels. -/
theorem Lvl.inst_left {w W : World} {ls : List Lv} {c : Int} {pre : List (Int × Int)}
    (hB : Below w.heap.size w W) (hZ : W.heap[w.heap.size + 1 + 1]? = some zero.box) (hE : W.heap[w.heap.size + 1 + 1 + 1]? = some (.cells #[.int .i64 0] 38))
    (hst : instAll ls (number c) pre = none) :
    KeepsOthers W ((put5 W (w.heap.size + 1 + 1) zero).setCell ⟨w.heap.size + 1 + 1 + 1, 0, none⟩ (.int .i64 8)) ∧ ((Code.ret = Code.ret ∧ instAll ls (number c) pre = none ∧
      ((put5 W (w.heap.size + 1 + 1) zero).setCell ⟨w.heap.size + 1 + 1 + 1, 0, none⟩ (.int .i64 8)).heap[w.heap.size + 1 + 1]? = some zero.box ∧
      ((put5 W (w.heap.size + 1 + 1) zero).setCell ⟨w.heap.size + 1 + 1 + 1, 0, none⟩ (.int .i64 8)).heap[w.heap.size + 1 + 1 + 1]? = some (.cells #[.int .i64 8] 38)) ∧
      Below w.heap.size w ((put5 W (w.heap.size + 1 + 1) zero).setCell ⟨w.heap.size + 1 + 1 + 1, 0, none⟩ (.int .i64 8))) :=
  ⟨(keeps_put _ _ _).trans (KeepsOthers.setCell _ _ _), ⟨rfl, hst, cells_other (put5_self hZ zero) _ (by omega), put_one (put5_other hE zero (by omega)) _⟩,
    (put5_below hB (B := w.heap.size + 1 + 1) (by omega) zero).setCell (p := ⟨w.heap.size + 1 + 1 + 1, 0, none⟩) (show w.heap.size ≤ w.heap.size + 1 + 1 + 1 by omega) _⟩
/-- The end: both results are stored. -/
theorem Lvl.inst_fin {w W : World} {D : Nat} (hB : Below w.heap.size w W) (hZ : W.heap[w.heap.size + 1 + 1]? = some zero.box) (hE : W.heap[w.heap.size + 1 + 1 + 1]? = some (.cells #[.int .i64 0] 38))
    (hK : W.heap[D]? = some (.deferred (some []))) (hD : w.heap.size ≤ D) (A : Lv) (q : Int) :
    ((put5 W (w.heap.size + 1 + 1) A).setCell ⟨w.heap.size + 1 + 1 + 1, 0, none⟩ (.int .i64 q)).heap[D]? = some (.deferred (some [])) ∧
    (((put5 W (w.heap.size + 1 + 1) A).setCell ⟨w.heap.size + 1 + 1 + 1, 0, none⟩ (.int .i64 q)).putObj D (.deferred none)).heap[w.heap.size + 1 + 1]? = some A.box ∧
    (((put5 W (w.heap.size + 1 + 1) A).setCell ⟨w.heap.size + 1 + 1 + 1, 0, none⟩ (.int .i64 q)).putObj D (.deferred none)).heap[w.heap.size + 1 + 1 + 1]? = some (.cells #[.int .i64 q] 38) ∧
    Below w.heap.size w (((put5 W (w.heap.size + 1 + 1) A).setCell ⟨w.heap.size + 1 + 1 + 1, 0, none⟩ (.int .i64 q)).putObj D (.deferred none)) := by
  have hK' := ((keeps_put W (w.heap.size + 1 + 1) A).trans (KeepsOthers.setCell _ ⟨w.heap.size + 1 + 1 + 1, 0, none⟩ (.int .i64 q))).same D _ hK rfl
  have h1 := cells_other (put5_self hZ A) (.int .i64 q) (b := w.heap.size + 1 + 1 + 1) (o := 0) (by omega)
  have h2 := put_one (put5_other hE A (b := w.heap.size + 1 + 1) (by omega)) (.int .i64 q)
  have h3 := (put5_below hB (B := w.heap.size + 1 + 1) (by omega) A).setCell (p := ⟨w.heap.size + 1 + 1 + 1, 0, none⟩) (show w.heap.size ≤ w.heap.size + 1 + 1 + 1 by omega) (.int .i64 q)
  generalize (put5 W (w.heap.size + 1 + 1) A).setCell ⟨w.heap.size + 1 + 1 + 1, 0, none⟩ (.int .i64 q) = V at hK' h1 h2 h3
  exact ⟨hK', block_put h1 hK' rfl _, (grownBy_keeps_cells (grownBy_putObj' V D (.deferred none)) (fun r e => by cases e; exact ⟨_, hK', rfl⟩) h2 rfl).trans h2, h3.trans (belowK_b (w := w) (Nat.le_refl _) V D _ _ hD hK' rfl rfl)⟩

set_option maxRecDepth 100000 in
set_option maxHeartbeats 8000000 in
theorem inst_yes (l : Lv) (ao : Option Addr) (cap : Nat) (ls : List Lv) (w : World) (hr : LRow w ao ls) (hn : ls.length ≤ 9000000000000000000) (hl : l.may = true) (hls : ls.all Lv.may = true) :
    Calls Tryz.prog 116 #[l.val, .slice ao ls.length cap] w fun e w' => e = .returned (.tuple #[(inst l ls).1.val, .int .i64 (inst l ls).2]) ∧ Below w.heap.size w w' := by
  obtain ⟨X, hX⟩ : ∃ X, X = inst l ls := ⟨_, rfl⟩
  rw [← hX]
  rw [inst, if_pos ⟨hl, hls⟩] at hX
  have HX := Lib.hid hX
  have hmay := fun w => may_any l w
  rw [hl] at hmay
  have hall := fun w hr => allMay_any ao cap ls w hr hn
  rw [hls] at hall
  have HM := Lib.hid hmay
  have HA := Lib.hid hall
  have HR := Lib.hid hr
  have HY := Lib.hid hls
  have hw := may_within hl
  have HW := Lib.hid hw
  have B0 := Lib.hid ((below_two w l.box (.cells #[.slice ao ls.length cap] 24)).alloc (by simp; omega) zero.box |>.alloc (by simp; omega) (.cells #[.int .i64 0] 38))
  have HZ := Lib.hid (keepA (new3 w l.box (.cells #[.slice ao ls.length cap] 24) zero.box) (.cells #[.int .i64 0] 38))
  have HE := Lib.hid (new4 w l.box (.cells #[.slice ao ls.length cap] 24) zero.box (.cells #[.int .i64 0] 38))
  have HS := Lib.hid (keepA (keepA (new2 w l.box (.cells #[.slice ao ls.length cap] 24)) zero.box) (.cells #[.int .i64 0] 38))
  have HL := Lib.hid (keepA (keepA (new1of2 w l.box (.cells #[.slice ao ls.length cap] 24)) zero.box) (.cells #[.int .i64 0] 38))
  clear hmay hl hr hall hls hX hw
  refine (callsIn_wide (n := 3)).1 ?_
  refine callsIn_of_wp_marks Tryz.func116 rfl trivial ?_ rfl
  unfold Lv.val
  simp only [Tryz.ntmps116, List.size_toArray, List.length_cons, List.length_nil, Nat.reduceAdd, Nat.reduceSub, Array.replicate_succ, Array.replicate_zero, List.push_toArray, List.append_toArray, List.nil_append, List.cons_append]
  gi_wp2_with fail
  refine ⟨trivial, ?_⟩
  refine (callsIn_wide.2 (HM.out _)).mono ?_
  rintro e w1 ⟨rfl, b1⟩
  have HZ1 := Lib.hid (keep b1 HZ.out)
  have HE1 := Lib.hid (keep b1 HE.out)
  have HS1 := Lib.hid (keep b1 HS.out)
  have HL1 := Lib.hid (keep b1 HL.out)
  have B1 := Lib.hid (B0.out.trans (b1.mono (by simp; omega)))
  have s0 := one_cell HS1.out
  clear b1 HZ HE HS HL B0
  gi_wp2_with fail
  refine ⟨trivial, ?_⟩
  refine (callsIn_wide.2 (HA.out _ (HR.out.below B1.out))).mono ?_
  rintro e w2 ⟨rfl, b2⟩
  have HZ2 := Lib.hid (keep b2 HZ1.out)
  have HE2 := Lib.hid (keep b2 HE1.out)
  have HS2 := Lib.hid (keep b2 HS1.out)
  have HL2 := Lib.hid (keep b2 HL1.out)
  have B2 := Lib.hid (B1.out.trans (b2.mono B1.out.size))
  obtain ⟨d0, d1, d2, d3, d4⟩ := Lv.cells HL2.out
  clear b2 s0 HZ1 HE1 HS1 HL1 B1
  gi_wp2_with fail
  refine ⟨trivial, ?_⟩
  refine (callsIn_wide.2 (number_any _ _)).mono ?_
  rintro e w3 ⟨rfl, b3⟩
  have HZ3 := Lib.hid (keep b3 HZ2.out)
  have HE3 := Lib.hid (keep b3 HE2.out)
  have HS3 := Lib.hid (keep b3 HS2.out)
  have hl3 := keep b3 HL2.out
  have B3 := Lib.hid (B2.out.trans (b3.mono B2.out.size))
  have hz := Nat.lt_of_lt_of_le (Array.getElem?_eq_some_iff.1 HE2.out).1 b3.size
  have hz0 : w.heap.size < w3.heap.size := by omega
  clear b3 d0 d1 d2 d3 d4 HZ2 HE2 HS2 HL2 B2
  obtain ⟨d0, d1, d2, d3, d4⟩ := Lv.cells hl3
  clear hl3
  dsimp only [number, Lv.val]
  gi_wp2_with (refine ⟨trivial, ?_⟩; gi_at_call 165; refine (callsIn_wide.2 (params_any _ _)).mono ?_; rintro e w' ⟨rfl, rfl⟩)
  have hb0 := below_b (below_b B3.out (number l.c).box) l.box
  have hZ0 := keepA (keepA HZ3.out (number l.c).box) l.box
  have hE0 := keepA (keepA HE3.out (number l.c).box) l.box
  have hS0 := keepA (keepA HS3.out (number l.c).box) l.box
  clear d0 d1 d2 d3 d4 HZ3 HE3 HS3 B3
  refine wpIn_rangeFunc_ownF rfl (by omega) (gf := 195) (lb := #[.pointer (some ⟨w3.heap.size + 1, 0, none⟩)]) rfl trivial (enters_of Tryz.func195 (by kernel_rfl) rfl)
    (params_stops Fence.wide 2 trivial rfl (by omega) (w3.heap.size + 1) l _ (new2 w3 _ _)) (fun _ _ => trivial) (fun _ _ _ _ _ _ _ _ => trivial) (Below.refl _ _) (fun _ => rfl)
    (fun pre W => InstI w3.heap.size (w.heap.size + 1 + 1) (w.heap.size + 1 + 1 + 1) (w.heap.size + 1) ao ls cap l.c (pre.map (·.1)) W ∧ Below w.heap.size w W)
    (fun c pre W => (c = .ret ∧ instAll ls (number l.c) (pre.map (·.1)) = none ∧ W.heap[w.heap.size + 1 + 1]? = some zero.box ∧ W.heap[w.heap.size + 1 + 1 + 1]? = some (.cells #[.int .i64 8] 38)) ∧ Below w.heap.size w W)
    (OwnFrom.and (Own.from (fun s A B row hs hg hr => hs.kept hg hr) _) (ownFrom_below (Nat.le_refl _) (by simp; omega)))
    (fun c => OwnFrom.and (Own.from (fun s A B row hs hg hr => ⟨hs.1, hs.2.1, block_kept hs.2.2.1 hg hr, (grownBy_keeps_cells hg hr hs.2.2.2 rfl).trans hs.2.2.2⟩) _) (ownFrom_below (Nat.le_refl _) (by simp; omega)))
    ⟨⟨number l.c, rfl, ⟨by simp [number], by simp [number], by simp [number], by simp [number]⟩, ?h1, hZ0, hE0, hS0⟩, hb0⟩
    (fun x => { tmps := #[.agg #[.int .i64 l.c, .int .i64 l.p0, .int .i64 l.p1, .int .i64 l.p2, .int .i64 l.p3], .slice ao ls.length cap, .pointer (some ⟨w.heap.size, 0, none⟩), .pointer (some ⟨w.heap.size + 1, 0, none⟩), .pointer (some ⟨w.heap.size + 1 + 1, 0, none⟩), .pointer (some ⟨w.heap.size + 1 + 1 + 1, 0, none⟩), .pointer (some ⟨w3.heap.size, 0, none⟩), .int .i64 x.1.1, .int .i64 x.1.2, .agg #[.int .i64 l.c, .int .i64 l.p0, .int .i64 l.p1, .int .i64 l.p2, .int .i64 l.p3], .bool true, .bool false, .bool false, .slice ao ls.length cap, .bool true, .bool false, .bool false, undef, .pointer (some ⟨w.heap.size, 0, none⟩), .int .i64 l.c, .agg #[.int .i64 l.c, .int .i64 (-1), .int .i64 (-1), .int .i64 (-1), .int .i64 (-1)], .agg #[.int .i64 l.c, .int .i64 l.p0, .int .i64 l.p1, .int .i64 l.p2, .int .i64 l.p3], .func (.func 195) #[] #[.pointer (some ⟨w3.heap.size + 1, 0, none⟩)], .int .i64 x.1.1, .int .i64 x.1.2, undef, undef, undef, undef, undef, undef, undef, undef, undef, undef, undef, undef, undef, undef, undef, undef, undef], defers := [] }) ?assign ?body ?done ?stop
  case h1 => rw [Below.heap_alloc _ _ _ (by simp)]; exact World.alloc_heap_new w3 _
  case assign =>
    intro lo x W K hK
    gi_wp2
    exact hK
  case body =>
    have hmix : Tryz.prog.follows .mixedOrders = true := by kernel_rfl
    rintro lo pre ⟨x, hx⟩ W ⟨⟨o, ho, hlow, hO, hZ, hE, hS⟩, hB⟩ _
    obtain ⟨k, hk4, rfl, hne⟩ := mem_ps_k hx
    have HO := Lib.hid hO
    have HZ := Lib.hid hZ
    have HE := Lib.hid hE
    have HS := Lib.hid hS
    have HI := Lib.hid ho
    have HLow := Lib.hid hlow
    have HB := Lib.hid hB
    have HNE := Lib.hid hne
    have s0 := one_cell hS
    clear hO hZ hE hS ho hlow hB hne
    dsimp only
    by_cases hlt : k < ls.length
    · have hge : (ls.length ≤ k) = False := by simp; omega
      obtain ⟨b, off, hao, c0, c1, c2, c3, c4⟩ := (HR.out.below HB.out).place k hlt
      subst hao
      obtain ⟨y, hy⟩ : ∃ y, y = ls[k] := ⟨_, rfl⟩
      rw [← hy] at c0 c1 c2 c3 c4
      have hbw : b < W.heap.size := World.block_lt_of_cell? W _ c0
      have hym : y.may = true := by
        have h := HY.out
        rw [List.all_eq_true] at h
        rw [hy]; exact h _ (List.getElem_mem hlt)
      have hn2 : 0 ≤ l.at_ k ∧ l.at_ k ≤ 1099511627776 := at_low HW.out hk4 HNE.out
      have hplus := fun w => plus_any y (l.at_ k) w (may_within hym) hn2
      have hjoin := fun w => join_any o (y.plus (l.at_ k)) w HLow.out.1 HLow.out.2.1 HLow.out.2.2.1 HLow.out.2.2.2
      have HP := Lib.hid hplus
      have HJ := Lib.hid hjoin
      have HST := Lib.hid (show instStep ls (some o) ((k : Int), l.at_ k) = some (o.join (y.plus (l.at_ k))) by simp [instStep, hlt, ← hy])
      obtain ⟨g0, g1, g2, g3, g4⟩ := Lv.cells HO.out
      clear hym hn2 hplus hjoin hy
      gi_wp2
      gi_region_with_o (first
        | ((first | (refine ⟨trivial, ?_⟩; gi_at_call 167) | gi_at_call 167); refine (CallsIn.inRound lo (callsIn_wide.2 (HP.out _))).mono ?_; rintro e v1 ⟨rfl, b1⟩; have HO1 := Lib.hid (keep b1 HO.out); have B1 := Lib.hid b1; clear b1; obtain ⟨g0, g1, g2, g3, g4⟩ := Lv.cells HO1.out; dsimp only [Lv.val])
        | ((first | (refine ⟨trivial, ?_⟩; gi_at_call 166) | gi_at_call 166); refine (CallsIn.inRound lo (callsIn_wide.2 (HJ.out _))).mono ?_; rintro e v2 ⟨rfl, b2⟩; have HO2 := Lib.hid (keep b2 HO1.out); have B2 := Lib.hid b2; clear b2; obtain ⟨g0, g1, g2, g3, g4⟩ := Lv.cells HO2.out; obtain ⟨k0, k1, k2, k3, k4⟩ := Lv.frees HO2.out; dsimp only [Lv.val]))
      all_goals gi_wp2
      all_goals exact inst_round HB.out B1.out B2.out HO2.out (by omega) HZ.out HE.out HS.out (by omega) (by omega) (by omega) (by rw [List.map_append, List.map_singleton, instAll_snoc, HI.out]; exact HST.out) (Lv.low_join HLow.out)
    · have hge : (ls.length ≤ k) = True := by simp; omega
      have HST := Lib.hid (show instStep ls (some o) ((k : Int), l.at_ k) = none by simp [instStep, hlt])
      obtain ⟨g0, g1, g2, g3, g4⟩ := Lv.cells HZ.out
      obtain ⟨k0, k1, k2, k3, k4⟩ := Lv.frees HZ.out
      have e0 := one_cell HE.out
      have e1 := free_one HE.out
      clear hlt
      gi_wp2
      exact inst_left HB.out HZ.out HE.out (by rw [List.map_append, List.map_singleton, instAll_snoc, HI.out]; exact HST.out)
  case done =>
    rintro D ys W hD hys ⟨⟨o, ho, hlow, hO, hZ, hE, hS⟩, hB⟩ hK
    rw [hys] at ho
    have HX2 := HX.out
    rw [ho] at HX2
    have hans := fun w => answer_any o w
    simp only at HX2
    rw [← HX2] at hans
    obtain ⟨A, q⟩ := X
    dsimp only at hans ⊢
    have HN := Lib.hid hans
    have HZ := Lib.hid hZ
    have HE := Lib.hid hE
    have HB := Lib.hid hB
    have HK := Lib.hid hK
    obtain ⟨g0, g1, g2, g3, g4⟩ := Lv.cells hO
    clear hans hZ hE hB hK hO hS hlow ho hys HX2 HX
    gi_wp2_with fail
    refine ⟨trivial, ?_⟩
    refine (callsIn_wide.2 (HN.out _)).mono ?_
    rintro e w5 ⟨rfl, b5⟩
    have HZ5 := Lib.hid (keep b5 HZ.out)
    have HE5 := Lib.hid (keep b5 HE.out)
    have HK5 := Lib.hid (keep b5 HK.out)
    have HB5 := Lib.hid (HB.out.trans (b5.mono HB.out.size))
    clear b5 g0 g1 g2 g3 g4
    obtain ⟨g0, g1, g2, g3, g4⟩ := Lv.cells HZ5.out
    obtain ⟨k0, k1, k2, k3, k4⟩ := Lv.frees HZ5.out
    have e0 := one_cell HE5.out
    have e1 := free_one HE5.out
    dsimp only [Lv.val]
    gi_wp2_with fail
    obtain ⟨x1, x2, x3, x4⟩ := inst_fin HB5.out HZ5.out HE5.out HK5.out (by simp at hD; omega) A q
    generalize hW : (put5 w5 (w.heap.size + 1 + 1) A).setCell ⟨w.heap.size + 1 + 1 + 1, 0, none⟩ (.int .i64 q) = W6 at x1 x2 x3 x4
    rw [put5] at hW
    rw [hW]
    obtain ⟨r0, r1, r2, r3, r4⟩ := Lv.cells x2
    have r5 := one_cell x3
    refine ⟨by simp, .inl ⟨_, _, rfl, run_takeDeferred x1, ?_⟩⟩
    exact ⟨.tuple #[.agg #[.int .i64 A.c, .int .i64 A.p0, .int .i64 A.p1, .int .i64 A.p2, .int .i64 A.p3], .int .i64 q], by simp [results, Tryz.results116, go_sem, r0, r1, r2, r3, r4, r5], rfl, x4⟩
  case stop =>
    rintro D c pre W hD hpre ⟨⟨rfl, hnone, hZ, hE⟩, hB⟩ hK
    have hno := instAll_prefix hpre hnone
    have HX2 := HX.out
    rw [hno] at HX2
    simp only at HX2
    subst HX2
    dsimp only
    have HZ := Lib.hid hZ
    have HE := Lib.hid hE
    have HB := Lib.hid hB
    have HK := Lib.hid hK
    clear hZ hE hB hK hnone hno HX
    gi_wp2
    obtain ⟨r0, r1, r2, r3, r4⟩ := leave HZ.out HK.out
    have r5 := one_cell ((grownBy_keeps_cells (grownBy_putObj' W D (.deferred none)) (fun r e => by cases e; exact ⟨_, HK.out, rfl⟩) HE.out rfl).trans HE.out)
    refine ⟨by simp, .inl ⟨_, _, rfl, run_takeDeferred HK.out, ?_⟩⟩
    exact ⟨.tuple #[.agg #[.int .i64 0, .int .i64 0, .int .i64 0, .int .i64 0, .int .i64 0], .int .i64 8], by simp [results, Tryz.results116, go_sem, r0, r1, r2, r3, r4, r5, zero], rfl, HB.out.trans (belowK_b (w := w) (Nat.le_refl _) W D _ _ (by simp at hD; omega) HK.out rfl rfl)⟩

theorem inst_any (l : Lv) (ao : Option Addr) (cap : Nat) (ls : List Lv) (w : World) (hr : LRow w ao ls) (hn : ls.length ≤ 9000000000000000000) :
    Calls Tryz.prog 116 #[l.val, .slice ao ls.length cap] w fun e w' => e = .returned (.tuple #[(inst l ls).1.val, .int .i64 (inst l ls).2]) ∧ Below w.heap.size w w' := by
  cases hl : l.may
  · have e : inst l ls = (zero, 1) := by simp [inst, hl]
    rw [e]
    exact inst_no l ao cap ls w hl
  · cases hls : ls.all Lv.may
    · have e : inst l ls = (zero, 1) := by rw [inst, if_neg (by simp [hls])]
      rw [e]
      exact inst_no2 l ao cap ls w hr hn hl hls
    · exact inst_yes l ao cap ls w hr hn hl hls
end Go.Proofs.YtiekbhlnnmnklaaGreat


