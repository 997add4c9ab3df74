/-
  battenlaw03.TermFree: the walk.
-/
import Derived.Test.YtnchanacembgfaaTrmWorks
import Derived.Test.YtnchanacembgfaaTrmFreeMath
import Derived.Deep.DeepCutAuto
namespace Go.Proofs.Ytnchanacembgfaa
open Go.RowKit Go.Shelf Lvl Trm

theorem Trm.Kept.put {w wr : World} {o : Obj} (h : Kept w wr o) {b : Nat} (hb : w.heap.size < b) (v0 v1 v2 v3 v4 : Value) : Kept w (putT wr b v0 v1 v2 v3 v4) o :=
  ⟨putT_below h.bel (by omega) _ _ _ _ _, putT_other h.box _ _ _ _ _ (by omega)⟩
/-- The term u stands in a variable of its own. -/
def Trm.CutU (w : World) (o : Obj) (u : Tm) (s : Value) (wc : World) : Prop := ∃ b hu, s = .pointer (some ⟨b, 0, none⟩) ∧ wc.heap[b]? = some (u.box hu) ∧ u.In wc.heap.size wc hu ∧ Kept w wc o

set_option maxRecDepth 100000 in
set_option maxHeartbeats 16000000 in
theorem law_free (t : Tm) (h : Hd) (k : Int) (w : World) (hin : t.In w.heap.size w h) (hk0 : 0 ≤ k) (hk1 : k ≤ 255) :
    Calls Try.prog 7 #[t.val h, .int .u8 k] w fun e w' => e = .returned (.bool true) ∧ Below w.heap.size w w' := by
  have HIN := Lib.hid hin
  have HD := Lib.hid (fun (W : World) (hW : Below w.heap.size w W) => Deep_any t h W (carry hin hW))
  have HM := Lib.hid (fun (W : World) (hW : Below w.heap.size w W) => PMay_any t h W (carry hin hW))
  unfold Tm.val at HD HM ⊢
  dsimp only [Tm.vals] at HD HM ⊢
  clear hin
  cases hdeep : t.deep
  · rw [hdeep] at HD
    clear hdeep
    cases hmay : t.may
    · rw [hmay] at HM
      clear hmay
      go_enter Try.func7, Try.ntmps7
      go_wp2_with fail
      refine (HD.out _ (below_one w _)).mono ?_
      rintro e w1 ⟨rfl, b1⟩
      have HK1 := Lib.hid ((Kept.start w (t.box h)).step b1)
      obtain ⟨c0, c1, c2, c3, c4⟩ := Tm.cells HK1.out.box
      clear b1
      go_wp2_with fail
      refine (HM.out _ HK1.out.bel).mono ?_
      rintro e w2 ⟨rfl, b2⟩
      have HK2 := Lib.hid (HK1.out.step b2)
      clear b2 c0 c1 c2 c3 c4
      go_wp2_with fail
      refine (works_any _).mono ?_
      rintro e w3 ⟨rfl, b3⟩
      have HK3 := Lib.hid (HK2.out.step b3)
      clear b3
      go_wp2_with fail
      go_ret
      exact ⟨rfl, HK3.out.bel⟩
    · have HMAY := Lib.hid hmay
      rw [hmay] at HM
      obtain ⟨hn0, hn1, hpos, hup, hdown⟩ := free_facts hmay
      have HF := Lib.hid (fun (W : World) (hW : Below w.heap.size w W) => PFree_any t h W (carry HIN.out hW))
      have HH1 := Lib.hid (fun (hp : 0 < t.free) (W : World) (hW : Below w.heap.size w W) => (show Calls Try.prog 37 #[t.val h, .int .i64 (t.free - 1)] W fun e w' => e = .returned (.bool true) ∧ Below W.heap.size W w' from hpos hp ▸ PHas_any t h (t.free - 1) W (carry HIN.out hW)))
      have HH2 := Lib.hid (fun (W : World) (hW : Below w.heap.size w W) => (show Calls Try.prog 37 #[t.val h, .int .i64 (t.free + k)] W fun e w' => e = .returned (.bool false) ∧ Below W.heap.size W w' from hup k hk0 ▸ PHas_any t h (t.free + k) W (carry HIN.out hW)))
      have HH3 := Lib.hid (fun (W : World) (hW : Below w.heap.size w W) => (show Calls Try.prog 37 #[t.val h, .int .i64 (-1 - k)] W fun e w' => e = .returned (.bool false) ∧ Below W.heap.size W w' from hdown (-1 - k) (by omega) ▸ PHas_any t h (-1 - k) W (carry HIN.out hW)))
      have HL := Lib.hid (fun (hu : (t2 5 tS t).may = true) => lam_facts hmay hu)
      have HT3 := Lib.hid (fun (W : World) (hW : Below w.heap.size w W) => PHas_any t h (k + 1) W (carry HIN.out hW))
      have HC3 := Lib.hid (fun (W : World) (hW : Below w.heap.size w W) => PSize_any t h W (carry HIN.out hW))
      have hcnt := count_ge t
      clear hmay hpos hup hdown
      unfold Tm.val at HF HH1 HH2 HH3 HT3 HC3
      dsimp only [Tm.vals] at HF HH1 HH2 HH3 HT3 HC3
      generalize t.free = N at hn0 hn1 HF HH1 HH2 HH3 HL
      generalize t.count = c at hcnt HC3 HL
      go_enter Try.func7, Try.ntmps7
      go_wp2_with fail
      refine (HD.out _ (below_one w _)).mono ?_
      rintro e w1 ⟨rfl, b1⟩
      have HK1 := Lib.hid ((Kept.start w (t.box h)).step b1)
      obtain ⟨c0, c1, c2, c3, c4⟩ := Tm.cells HK1.out.box
      clear b1
      go_wp2_with fail
      refine (HM.out _ HK1.out.bel).mono ?_
      rintro e w2 ⟨rfl, b2⟩
      have HK2 := Lib.hid (HK1.out.step b2)
      clear b2 c0 c1 c2 c3 c4
      obtain ⟨c0, c1, c2, c3, c4⟩ := Tm.cells HK2.out.box
      go_wp2_with fail
      refine (HF.out _ HK2.out.bel).mono ?_
      rintro e w3 ⟨rfl, b3⟩
      have HK3 := Lib.hid (HK2.out.step b3)
      clear b3 c0 c1 c2 c3 c4
      obtain ⟨c0, c1, c2, c3, c4⟩ := Tm.cells HK3.out.box
      by_cases hp : 0 < N
      · go_wp2_with fail
        refine ((Lib.hid (HH1.out hp)).out _ HK3.out.bel).mono ?_
        rintro e w4 ⟨rfl, b4⟩
        have HK4 := Lib.hid (HK3.out.step b4)
        clear b4 c0 c1 c2 c3 c4
        obtain ⟨c0, c1, c2, c3, c4⟩ := Tm.cells HK4.out.box
        go_wp2_with fail
        refine (HH2.out _ HK4.out.bel).mono ?_
        rintro e w5 ⟨rfl, b5⟩
        have HK5 := Lib.hid (HK4.out.step b5)
        clear b5 c0 c1 c2 c3 c4
        obtain ⟨c0, c1, c2, c3, c4⟩ := Tm.cells HK5.out.box
        go_wp2_with fail
        refine (HH3.out _ HK5.out.bel).mono ?_
        rintro e w6 ⟨rfl, b6⟩
        have HK6 := Lib.hid (HK5.out.step b6)
        clear b6 c0 c1 c2 c3 c4
        obtain ⟨c0, c1, c2, c3, c4⟩ := Tm.cells HK6.out.box
        obtain ⟨u, hu0⟩ : ∃ u, u = t2 5 tS t := ⟨_, rfl⟩
        have HLL := Lib.hid (fun (W : World) (hS : Hd) (h1 : tS.In W.heap.size W hS) (h2 : t.In W.heap.size W h) => (show Calls Try.prog 47 #[tS.val hS, .agg #[.int .u8 t.k, .int .i64 t.n, .string t.s, .slice h.lo t.ls.length h.lc, .slice h.to t.ts.length h.tc]] W (MadeS u W (fun m => Firm m W tS hS ∧ Firm m W t h)) from hu0 ▸ L_safe tS t hS h W h1 h2))
        rw [← hu0] at HL
        have HU0 := Lib.hid hu0
        clear hu0
        have HTW := Lib.hid (carry HIN.out HK6.out.bel)
        have HTF := Lib.hid (fun (m : Nat) (hm : w.heap.size ≤ m) => Firm.of (m := m) (Tm.In.below HK6.out.bel _ _ HIN.out) hm HK6.out.bel.size)
        have HKW := Lib.hid HK6.out
        obtain ⟨w7, hw7⟩ : ∃ w7, w7 = w6 := ⟨_, rfl⟩
        rw [← hw7] at HTW HTF HKW c0 c1 c2 c3 c4 ⊢
        clear hw7
        have hz7 : w.heap.size < w7.heap.size := World.block_lt_of_cell? w7 _ c0
        go_upto_region 6 with fail
        go_cut [6] (fun s6 wc => CutU w (t.box h) u s6 wc)
        case first =>
          go_region_with (first
            | (go_at_call 48; refine (S_safe _).mono ?_; rintro e w8 ⟨hS, rfl, iS, b8, fS⟩
               have hb8 : Below w7.heap.size w7 w8 := by first | exact undrew b8 | exact Below.trans ((Below.refl w7.heap.size w7).drew.alloc (Nat.le_refl _) _) (b8.mono (by simp))
               have HB8 := Lib.hid hb8
               have HS8 := Lib.hid iS
               have HK8 := Lib.hid (HKW.out.step hb8)
               have HT8 := Lib.hid (carry HTW.out hb8)
               obtain ⟨d0, d1, d2, d3, d4⟩ := Tm.cells HK8.out.box
               have hz8 := hb8.size
               have hz8b : w.heap.size < w8.heap.size := by omega
               (try (have hv8 : w8.heap[w7.heap.size]? = some _ := Lvl.keep b8 (World.alloc_heap_new w7.drew _)
                     have HV8 := Lib.hid hv8
                     have HF8 := Lib.hid (fS w7.heap.size (by simp) trivial)
                     obtain ⟨v0, v1, v2, v3, v4⟩ := five_cells hv8
                     obtain ⟨g0, g1, g2, g3, g4⟩ := five_free hv8
                     have hvl := (Array.getElem?_eq_some_iff.1 hv8).1
                     clear hv8))
               clear iS b8 hb8 fS)
            | (go_at_call 47; refine (HLL.out _ hS (by first | exact HS8.out | exact carry HS8.out (below_one _ _)) (by first | exact HT8.out | exact carry HT8.out (below_one _ _))).mono ?_; rintro e w9 ⟨hu, rfl, iU, b9, fU⟩
               have hb9 : Below w8.heap.size w8 w9 := by first | exact b9 | exact (below_one w8 _).trans (b9.mono (by simp))
               have HB9 := Lib.hid hb9
               have HU9 := Lib.hid iU
               have HFU := Lib.hid fU
               have HK9 := Lib.hid (HK8.out.step hb9)
               have hz9 := hb9.size
               (try (have hv9 := Lvl.keep hb9 HV8.out
                     have HV9 := Lib.hid hv9
                     have HF9 := Lib.hid (fU w7.heap.size (by omega) ⟨HF8.out, (HTF.out w7.heap.size (by omega)).step (Ran.of_below HB8.out)⟩)
                     obtain ⟨v0, v1, v2, v3, v4⟩ := five_cells hv9
                     obtain ⟨g0, g1, g2, g3, g4⟩ := five_free hv9
                     have hvl := (Array.getElem?_eq_some_iff.1 hv9).1
                     clear hv9))
               (try (have hv9 := Lvl.keep b9 (World.alloc_heap_new w8 _)
                     have HV9 := Lib.hid hv9
                     have HF9 := Lib.hid (fU w8.heap.size (by simp) ⟨Firm.of (Tm.In.below (below_one w8 _) _ _ HS8.out) (Nat.le_refl _) (by simp), Firm.of (Tm.In.below (below_one w8 _) _ _ HT8.out) (Nat.le_refl _) (by simp)⟩)
                     obtain ⟨v0, v1, v2, v3, v4⟩ := five_cells hv9
                     obtain ⟨g0, g1, g2, g3, g4⟩ := five_free hv9
                     have hvl := (Array.getElem?_eq_some_iff.1 hv9).1
                     clear hv9))
               clear iU b9 hb9 fU
               dsimp only [Tm.val, Tm.vals]))
          all_goals
            go_wp2_with fail
            go_meet
            first
              | (have _q := HV8.out
                 exact ⟨w7.heap.size, hu, rfl, putT_self HV9.out _ _ _ _ _, HF9.out _ (putT_ran _ _ _ _ _ _ _), HK9.out.put (by omega) _ _ _ _ _⟩)
              | (have _q := HV9.out
                 exact ⟨w8.heap.size, hu, rfl, putT_self HV9.out _ _ _ _ _, HF9.out _ (putT_ran _ _ _ _ _ _ _), HK9.out.put (by omega) _ _ _ _ _⟩)
              | exact ⟨w9.heap.size, hu, rfl, World.alloc_heap_new w9 (u.box hu), carry HU9.out (below_one _ _), HK9.out.more _⟩
        case rest =>
          obtain ⟨bu, hu, rfl, hub, hui, hkw⟩ := hcut
          have HKC := Lib.hid hkw
          have HUB := Lib.hid hub
          have HUI := Lib.hid hui
          obtain ⟨y0, y1, y2, y3, y4⟩ := five_cells hub
          have HRM := Lib.hid (fun (W : World) (hW : Below wc.heap.size wc W) => RefTMay_any u hu W (carry HUI.out hW))
          unfold Tm.val at HRM
          dsimp only [Tm.vals] at HRM
          clear hub hui hkw
          cases hum : u.may
          · rw [hum] at HRM
            clear hum
            go_wp2_with fail
            refine (HRM.out _ (Below.refl _ _)).mono ?_
            rintro e w10 ⟨rfl, b10⟩
            have HK10 := Lib.hid (HKC.out.step b10)
            clear b10 y0 y1 y2 y3 y4
            go_wp2_with fail
            refine (works_any _).mono ?_
            rintro e w11 ⟨rfl, b11⟩
            have HK11 := Lib.hid (HK10.out.step b11)
            clear b11
            go_wp2_with fail
            go_ret
            exact ⟨rfl, HK11.out.bel⟩
          · rw [hum] at HRM
            obtain ⟨hfu, hhu, hcu⟩ := HL.out hum
            have hhk := hhu k hk0
            clear hum hhu
            go_wp2_with fail
            refine (HRM.out _ (Below.refl _ _)).mono ?_
            rintro e w0 ⟨rfl, b10⟩
            have HK10 := Lib.hid (HKC.out.step b10)
            have XA := Lib.hid HK10.out.box
            have XB := Lib.hid (Lvl.keep b10 HUB.out)
            have I10 := Lib.hid (carry HUI.out b10)
            have HUF := Lib.hid (fun (W : World) (hW : Below w0.heap.size w0 W) => (show Calls Try.prog 36 #[u.val hu] W fun e w' => e = .returned (.int .i64 (max 0 (N - 1))) ∧ Below W.heap.size W w' from hfu ▸ PFree_any u hu W (carry I10.out hW)))
            have HUH := Lib.hid (fun (W : World) (hW : Below w0.heap.size w0 W) => (show Calls Try.prog 37 #[u.val hu, .int .i64 k] W fun e w' => e = .returned (.bool (t.has (k + 1))) ∧ Below W.heap.size W w' from hhk ▸ PHas_any u hu k W (carry I10.out hW)))
            have HTH := Lib.hid (fun (W : World) (hW : Below w0.heap.size w0 W) => HT3.out W (Trm.go HK10.out.bel hW))
            have HUS := Lib.hid (fun (W : World) (hW : Below w0.heap.size w0 W) => (show Calls Try.prog 35 #[u.val hu] W fun e w' => e = .returned (.int .i64 (c + 2)) ∧ Below W.heap.size W w' from hcu ▸ PSize_any u hu W (carry I10.out hW)))
            have HTS := Lib.hid (fun (W : World) (hW : Below w0.heap.size w0 W) => HC3.out W (Trm.go HK10.out.bel hW))
            have HWK := Lib.hid (fun (W : World) (_ : Below w0.heap.size w0 W) => works_any W)
            unfold Tm.val at HUF HUH HUS
            dsimp only [Tm.vals] at HUF HUH HUS
            generalize t.has (k + 1) = r at HUH HTH
            clear b10 y0 y1 y2 y3 y4 hfu hhk hcu
            obtain ⟨x0, x1, x2, x3, x4⟩ := five_cells XA.out
            obtain ⟨y0, y1, y2, y3, y4⟩ := five_cells XB.out
            have hbz : Below w0.heap.size w0 w0.drew := (Below.refl _ _).drew
            have hq1 : IntKind.i64.wrap (N - 1) = N - 1 := IntWalk.i64_in _ (by omega)
            have hq2 : IntKind.i64.wrap (k + 1) = k + 1 := IntWalk.i64_in _ (by omega)
            have hq4 : IntKind.i64.wrap k = k := IntWalk.i64_in _ (by omega)
            have hq3 : IntKind.i64.wrap (c + 2) = c + 2 := IntWalk.i64_in _ (by omega)
            have hmax := run_max
            go_wp2_with fail
            go_region_held3 (fun w' => Below w0.heap.size w0 w' ∧ w'.cell? ⟨w.heap.size, 0, none⟩ = some (.int .u8 t.k) ∧ w'.cell? ⟨w.heap.size, 1, none⟩ = some (.int .i64 t.n) ∧ w'.cell? ⟨w.heap.size, 2, none⟩ = some (.string t.s) ∧ w'.cell? ⟨w.heap.size, 3, none⟩ = some (.slice h.lo t.ls.length h.lc) ∧ w'.cell? ⟨w.heap.size, 4, none⟩ = some (.slice h.to t.ts.length h.tc) ∧ w'.cell? ⟨bu, 0, none⟩ = some (.int .u8 u.k) ∧ w'.cell? ⟨bu, 1, none⟩ = some (.int .i64 u.n) ∧ w'.cell? ⟨bu, 2, none⟩ = some (.string u.s) ∧ w'.cell? ⟨bu, 3, none⟩ = some (.slice hu.lo u.ls.length hu.lc) ∧ w'.cell? ⟨bu, 4, none⟩ = some (.slice hu.to u.ts.length hu.tc))
              (go_keep)
              (first | (go_at_call 36; (with_reducible refine (HUF.out _ ?_).mono ?_); (first | assumption | exact (Below.refl _ _).drew); rintro e w3 ⟨rfl, bw⟩; have hb3 : Below w0.heap.size w0 w3 := Trm.go (by first | assumption | exact (Below.refl _ _).drew) bw; obtain ⟨x0, x1, x2, x3, x4⟩ := five_cells (Lvl.keep hb3 XA.out); obtain ⟨y0, y1, y2, y3, y4⟩ := five_cells (Lvl.keep hb3 XB.out)) | (go_at_call 37; (with_reducible refine (HUH.out _ ?_).mono ?_); (first | assumption | exact (Below.refl _ _).drew); rintro e w3 ⟨rfl, bw⟩; have hb3 : Below w0.heap.size w0 w3 := Trm.go (by first | assumption | exact (Below.refl _ _).drew) bw; obtain ⟨x0, x1, x2, x3, x4⟩ := five_cells (Lvl.keep hb3 XA.out); obtain ⟨y0, y1, y2, y3, y4⟩ := five_cells (Lvl.keep hb3 XB.out)) | (go_at_call 37; (with_reducible refine (HTH.out _ ?_).mono ?_); (first | assumption | exact (Below.refl _ _).drew); rintro e w3 ⟨rfl, bw⟩; have hb3 : Below w0.heap.size w0 w3 := Trm.go (by first | assumption | exact (Below.refl _ _).drew) bw; obtain ⟨x0, x1, x2, x3, x4⟩ := five_cells (Lvl.keep hb3 XA.out); obtain ⟨y0, y1, y2, y3, y4⟩ := five_cells (Lvl.keep hb3 XB.out)) | (go_at_call 35; (with_reducible refine (HUS.out _ ?_).mono ?_); (first | assumption | exact (Below.refl _ _).drew); rintro e w3 ⟨rfl, bw⟩; have hb3 : Below w0.heap.size w0 w3 := Trm.go (by first | assumption | exact (Below.refl _ _).drew) bw; obtain ⟨x0, x1, x2, x3, x4⟩ := five_cells (Lvl.keep hb3 XA.out); obtain ⟨y0, y1, y2, y3, y4⟩ := five_cells (Lvl.keep hb3 XB.out)) | (go_at_call 35; (with_reducible refine (HTS.out _ ?_).mono ?_); (first | assumption | exact (Below.refl _ _).drew); rintro e w3 ⟨rfl, bw⟩; have hb3 : Below w0.heap.size w0 w3 := Trm.go (by first | assumption | exact (Below.refl _ _).drew) bw; obtain ⟨x0, x1, x2, x3, x4⟩ := five_cells (Lvl.keep hb3 XA.out); obtain ⟨y0, y1, y2, y3, y4⟩ := five_cells (Lvl.keep hb3 XB.out)) | (go_at_call 28; (with_reducible refine (HWK.out _ ?_).mono ?_); (first | assumption | exact (Below.refl _ _).drew); rintro e w3 ⟨rfl, bw⟩; have hb3 : Below w0.heap.size w0 w3 := Trm.go (by first | assumption | exact (Below.refl _ _).drew) bw; obtain ⟨x0, x1, x2, x3, x4⟩ := five_cells (Lvl.keep hb3 XA.out); obtain ⟨y0, y1, y2, y3, y4⟩ := five_cells (Lvl.keep hb3 XB.out)))
            all_goals
              go_wp2_with fail
              go_ret
              exact ⟨rfl, Trm.go HK10.out.bel (by assumption)⟩
      · go_wp2_with fail
        refine (HH2.out _ HK3.out.bel).mono ?_
        rintro e w5 ⟨rfl, b5⟩
        have HK5 := Lib.hid (HK3.out.step b5)
        clear b5 c0 c1 c2 c3 c4
        obtain ⟨c0, c1, c2, c3, c4⟩ := Tm.cells HK5.out.box
        go_wp2_with fail
        refine (HH3.out _ HK5.out.bel).mono ?_
        rintro e w6 ⟨rfl, b6⟩
        have HK6 := Lib.hid (HK5.out.step b6)
        clear b6 c0 c1 c2 c3 c4
        obtain ⟨c0, c1, c2, c3, c4⟩ := Tm.cells HK6.out.box
        obtain ⟨u, hu0⟩ : ∃ u, u = t2 5 tS t := ⟨_, rfl⟩
        have HLL := Lib.hid (fun (W : World) (hS : Hd) (h1 : tS.In W.heap.size W hS) (h2 : t.In W.heap.size W h) => (show Calls Try.prog 47 #[tS.val hS, .agg #[.int .u8 t.k, .int .i64 t.n, .string t.s, .slice h.lo t.ls.length h.lc, .slice h.to t.ts.length h.tc]] W (MadeS u W (fun m => Firm m W tS hS ∧ Firm m W t h)) from hu0 ▸ L_safe tS t hS h W h1 h2))
        rw [← hu0] at HL
        have HU0 := Lib.hid hu0
        clear hu0
        have HTW := Lib.hid (carry HIN.out HK6.out.bel)
        have HTF := Lib.hid (fun (m : Nat) (hm : w.heap.size ≤ m) => Firm.of (m := m) (Tm.In.below HK6.out.bel _ _ HIN.out) hm HK6.out.bel.size)
        have HKW := Lib.hid HK6.out
        obtain ⟨w7, hw7⟩ : ∃ w7, w7 = w6 := ⟨_, rfl⟩
        rw [← hw7] at HTW HTF HKW c0 c1 c2 c3 c4 ⊢
        clear hw7
        have hz7 : w.heap.size < w7.heap.size := World.block_lt_of_cell? w7 _ c0
        go_upto_region 6 with fail
        go_cut [6] (fun s6 wc => CutU w (t.box h) u s6 wc)
        case first =>
          go_region_with (first
            | (go_at_call 48; refine (S_safe _).mono ?_; rintro e w8 ⟨hS, rfl, iS, b8, fS⟩
               have hb8 : Below w7.heap.size w7 w8 := by first | exact undrew b8 | exact Below.trans ((Below.refl w7.heap.size w7).drew.alloc (Nat.le_refl _) _) (b8.mono (by simp))
               have HB8 := Lib.hid hb8
               have HS8 := Lib.hid iS
               have HK8 := Lib.hid (HKW.out.step hb8)
               have HT8 := Lib.hid (carry HTW.out hb8)
               obtain ⟨d0, d1, d2, d3, d4⟩ := Tm.cells HK8.out.box
               have hz8 := hb8.size
               have hz8b : w.heap.size < w8.heap.size := by omega
               (try (have hv8 : w8.heap[w7.heap.size]? = some _ := Lvl.keep b8 (World.alloc_heap_new w7.drew _)
                     have HV8 := Lib.hid hv8
                     have HF8 := Lib.hid (fS w7.heap.size (by simp) trivial)
                     obtain ⟨v0, v1, v2, v3, v4⟩ := five_cells hv8
                     obtain ⟨g0, g1, g2, g3, g4⟩ := five_free hv8
                     have hvl := (Array.getElem?_eq_some_iff.1 hv8).1
                     clear hv8))
               clear iS b8 hb8 fS)
            | (go_at_call 47; refine (HLL.out _ hS (by first | exact HS8.out | exact carry HS8.out (below_one _ _)) (by first | exact HT8.out | exact carry HT8.out (below_one _ _))).mono ?_; rintro e w9 ⟨hu, rfl, iU, b9, fU⟩
               have hb9 : Below w8.heap.size w8 w9 := by first | exact b9 | exact (below_one w8 _).trans (b9.mono (by simp))
               have HB9 := Lib.hid hb9
               have HU9 := Lib.hid iU
               have HFU := Lib.hid fU
               have HK9 := Lib.hid (HK8.out.step hb9)
               have hz9 := hb9.size
               (try (have hv9 := Lvl.keep hb9 HV8.out
                     have HV9 := Lib.hid hv9
                     have HF9 := Lib.hid (fU w7.heap.size (by omega) ⟨HF8.out, (HTF.out w7.heap.size (by omega)).step (Ran.of_below HB8.out)⟩)
                     obtain ⟨v0, v1, v2, v3, v4⟩ := five_cells hv9
                     obtain ⟨g0, g1, g2, g3, g4⟩ := five_free hv9
                     have hvl := (Array.getElem?_eq_some_iff.1 hv9).1
                     clear hv9))
               (try (have hv9 := Lvl.keep b9 (World.alloc_heap_new w8 _)
                     have HV9 := Lib.hid hv9
                     have HF9 := Lib.hid (fU w8.heap.size (by simp) ⟨Firm.of (Tm.In.below (below_one w8 _) _ _ HS8.out) (Nat.le_refl _) (by simp), Firm.of (Tm.In.below (below_one w8 _) _ _ HT8.out) (Nat.le_refl _) (by simp)⟩)
                     obtain ⟨v0, v1, v2, v3, v4⟩ := five_cells hv9
                     obtain ⟨g0, g1, g2, g3, g4⟩ := five_free hv9
                     have hvl := (Array.getElem?_eq_some_iff.1 hv9).1
                     clear hv9))
               clear iU b9 hb9 fU
               dsimp only [Tm.val, Tm.vals]))
          all_goals
            go_wp2_with fail
            go_meet
            first
              | (have _q := HV8.out
                 exact ⟨w7.heap.size, hu, rfl, putT_self HV9.out _ _ _ _ _, HF9.out _ (putT_ran _ _ _ _ _ _ _), HK9.out.put (by omega) _ _ _ _ _⟩)
              | (have _q := HV9.out
                 exact ⟨w8.heap.size, hu, rfl, putT_self HV9.out _ _ _ _ _, HF9.out _ (putT_ran _ _ _ _ _ _ _), HK9.out.put (by omega) _ _ _ _ _⟩)
              | exact ⟨w9.heap.size, hu, rfl, World.alloc_heap_new w9 (u.box hu), carry HU9.out (below_one _ _), HK9.out.more _⟩
        case rest =>
          obtain ⟨bu, hu, rfl, hub, hui, hkw⟩ := hcut
          have HKC := Lib.hid hkw
          have HUB := Lib.hid hub
          have HUI := Lib.hid hui
          obtain ⟨y0, y1, y2, y3, y4⟩ := five_cells hub
          have HRM := Lib.hid (fun (W : World) (hW : Below wc.heap.size wc W) => RefTMay_any u hu W (carry HUI.out hW))
          unfold Tm.val at HRM
          dsimp only [Tm.vals] at HRM
          clear hub hui hkw
          cases hum : u.may
          · rw [hum] at HRM
            clear hum
            go_wp2_with fail
            refine (HRM.out _ (Below.refl _ _)).mono ?_
            rintro e w10 ⟨rfl, b10⟩
            have HK10 := Lib.hid (HKC.out.step b10)
            clear b10 y0 y1 y2 y3 y4
            go_wp2_with fail
            refine (works_any _).mono ?_
            rintro e w11 ⟨rfl, b11⟩
            have HK11 := Lib.hid (HK10.out.step b11)
            clear b11
            go_wp2_with fail
            go_ret
            exact ⟨rfl, HK11.out.bel⟩
          · rw [hum] at HRM
            obtain ⟨hfu, hhu, hcu⟩ := HL.out hum
            have hhk := hhu k hk0
            clear hum hhu
            go_wp2_with fail
            refine (HRM.out _ (Below.refl _ _)).mono ?_
            rintro e w0 ⟨rfl, b10⟩
            have HK10 := Lib.hid (HKC.out.step b10)
            have XA := Lib.hid HK10.out.box
            have XB := Lib.hid (Lvl.keep b10 HUB.out)
            have I10 := Lib.hid (carry HUI.out b10)
            have HUF := Lib.hid (fun (W : World) (hW : Below w0.heap.size w0 W) => (show Calls Try.prog 36 #[u.val hu] W fun e w' => e = .returned (.int .i64 (max 0 (N - 1))) ∧ Below W.heap.size W w' from hfu ▸ PFree_any u hu W (carry I10.out hW)))
            have HUH := Lib.hid (fun (W : World) (hW : Below w0.heap.size w0 W) => (show Calls Try.prog 37 #[u.val hu, .int .i64 k] W fun e w' => e = .returned (.bool (t.has (k + 1))) ∧ Below W.heap.size W w' from hhk ▸ PHas_any u hu k W (carry I10.out hW)))
            have HTH := Lib.hid (fun (W : World) (hW : Below w0.heap.size w0 W) => HT3.out W (Trm.go HK10.out.bel hW))
            have HUS := Lib.hid (fun (W : World) (hW : Below w0.heap.size w0 W) => (show Calls Try.prog 35 #[u.val hu] W fun e w' => e = .returned (.int .i64 (c + 2)) ∧ Below W.heap.size W w' from hcu ▸ PSize_any u hu W (carry I10.out hW)))
            have HTS := Lib.hid (fun (W : World) (hW : Below w0.heap.size w0 W) => HC3.out W (Trm.go HK10.out.bel hW))
            have HWK := Lib.hid (fun (W : World) (_ : Below w0.heap.size w0 W) => works_any W)
            unfold Tm.val at HUF HUH HUS
            dsimp only [Tm.vals] at HUF HUH HUS
            generalize t.has (k + 1) = r at HUH HTH
            clear b10 y0 y1 y2 y3 y4 hfu hhk hcu
            obtain ⟨x0, x1, x2, x3, x4⟩ := five_cells XA.out
            obtain ⟨y0, y1, y2, y3, y4⟩ := five_cells XB.out
            have hbz : Below w0.heap.size w0 w0.drew := (Below.refl _ _).drew
            have hq1 : IntKind.i64.wrap (N - 1) = N - 1 := IntWalk.i64_in _ (by omega)
            have hq2 : IntKind.i64.wrap (k + 1) = k + 1 := IntWalk.i64_in _ (by omega)
            have hq4 : IntKind.i64.wrap k = k := IntWalk.i64_in _ (by omega)
            have hq3 : IntKind.i64.wrap (c + 2) = c + 2 := IntWalk.i64_in _ (by omega)
            have hmax := run_max
            go_wp2_with fail
            go_region_held3 (fun w' => Below w0.heap.size w0 w' ∧ w'.cell? ⟨w.heap.size, 0, none⟩ = some (.int .u8 t.k) ∧ w'.cell? ⟨w.heap.size, 1, none⟩ = some (.int .i64 t.n) ∧ w'.cell? ⟨w.heap.size, 2, none⟩ = some (.string t.s) ∧ w'.cell? ⟨w.heap.size, 3, none⟩ = some (.slice h.lo t.ls.length h.lc) ∧ w'.cell? ⟨w.heap.size, 4, none⟩ = some (.slice h.to t.ts.length h.tc) ∧ w'.cell? ⟨bu, 0, none⟩ = some (.int .u8 u.k) ∧ w'.cell? ⟨bu, 1, none⟩ = some (.int .i64 u.n) ∧ w'.cell? ⟨bu, 2, none⟩ = some (.string u.s) ∧ w'.cell? ⟨bu, 3, none⟩ = some (.slice hu.lo u.ls.length hu.lc) ∧ w'.cell? ⟨bu, 4, none⟩ = some (.slice hu.to u.ts.length hu.tc))
              (go_keep)
              (first | (go_at_call 36; (with_reducible refine (HUF.out _ ?_).mono ?_); (first | assumption | exact (Below.refl _ _).drew); rintro e w3 ⟨rfl, bw⟩; have hb3 : Below w0.heap.size w0 w3 := Trm.go (by first | assumption | exact (Below.refl _ _).drew) bw; obtain ⟨x0, x1, x2, x3, x4⟩ := five_cells (Lvl.keep hb3 XA.out); obtain ⟨y0, y1, y2, y3, y4⟩ := five_cells (Lvl.keep hb3 XB.out)) | (go_at_call 37; (with_reducible refine (HUH.out _ ?_).mono ?_); (first | assumption | exact (Below.refl _ _).drew); rintro e w3 ⟨rfl, bw⟩; have hb3 : Below w0.heap.size w0 w3 := Trm.go (by first | assumption | exact (Below.refl _ _).drew) bw; obtain ⟨x0, x1, x2, x3, x4⟩ := five_cells (Lvl.keep hb3 XA.out); obtain ⟨y0, y1, y2, y3, y4⟩ := five_cells (Lvl.keep hb3 XB.out)) | (go_at_call 37; (with_reducible refine (HTH.out _ ?_).mono ?_); (first | assumption | exact (Below.refl _ _).drew); rintro e w3 ⟨rfl, bw⟩; have hb3 : Below w0.heap.size w0 w3 := Trm.go (by first | assumption | exact (Below.refl _ _).drew) bw; obtain ⟨x0, x1, x2, x3, x4⟩ := five_cells (Lvl.keep hb3 XA.out); obtain ⟨y0, y1, y2, y3, y4⟩ := five_cells (Lvl.keep hb3 XB.out)) | (go_at_call 35; (with_reducible refine (HUS.out _ ?_).mono ?_); (first | assumption | exact (Below.refl _ _).drew); rintro e w3 ⟨rfl, bw⟩; have hb3 : Below w0.heap.size w0 w3 := Trm.go (by first | assumption | exact (Below.refl _ _).drew) bw; obtain ⟨x0, x1, x2, x3, x4⟩ := five_cells (Lvl.keep hb3 XA.out); obtain ⟨y0, y1, y2, y3, y4⟩ := five_cells (Lvl.keep hb3 XB.out)) | (go_at_call 35; (with_reducible refine (HTS.out _ ?_).mono ?_); (first | assumption | exact (Below.refl _ _).drew); rintro e w3 ⟨rfl, bw⟩; have hb3 : Below w0.heap.size w0 w3 := Trm.go (by first | assumption | exact (Below.refl _ _).drew) bw; obtain ⟨x0, x1, x2, x3, x4⟩ := five_cells (Lvl.keep hb3 XA.out); obtain ⟨y0, y1, y2, y3, y4⟩ := five_cells (Lvl.keep hb3 XB.out)) | (go_at_call 28; (with_reducible refine (HWK.out _ ?_).mono ?_); (first | assumption | exact (Below.refl _ _).drew); rintro e w3 ⟨rfl, bw⟩; have hb3 : Below w0.heap.size w0 w3 := Trm.go (by first | assumption | exact (Below.refl _ _).drew) bw; obtain ⟨x0, x1, x2, x3, x4⟩ := five_cells (Lvl.keep hb3 XA.out); obtain ⟨y0, y1, y2, y3, y4⟩ := five_cells (Lvl.keep hb3 XB.out)))
            all_goals
              go_wp2_with fail
              go_ret
              exact ⟨rfl, Trm.go HK10.out.bel (by assumption)⟩
  · rw [hdeep] at HD
    clear hdeep
    go_enter Try.func7, Try.ntmps7
    go_wp2_with fail
    refine (HD.out _ (below_one w _)).mono ?_
    rintro e w1 ⟨rfl, b1⟩
    have HK1 := Lib.hid ((Kept.start w (t.box h)).step b1)
    clear b1
    go_wp2_with fail
    refine (works_any _).mono ?_
    rintro e w3 ⟨rfl, b3⟩
    have HK3 := Lib.hid (HK1.out.step b3)
    clear b3
    go_wp2_with fail
    go_ret
    exact ⟨rfl, HK3.out.bel⟩
end Go.Proofs.Ytnchanacembgfaa
