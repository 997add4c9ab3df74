/-
  battenlaw03.TermSpines: the walk.
-/
import Derived.Test.YtnchanacembgfaaTrmWorks
import Derived.Test.YtnchanacembgfaaTrmSpMath
namespace Go.Proofs.Ytnchanacembgfaa
open Go.RowKit Go.Shelf Lvl Trm

def Trm.SuRel (w : World) (o : Obj) (l : List Tm) (i v : Value) (wr : World) : Prop :=
  ∃ (k : Nat) (n : Int), i = .int .i64 k ∧ v = .int .i64 n ∧ k ≤ l.length ∧ 0 ≤ n ∧ n ≤ k * 131073 ∧ Kept w wr o
def Trm.EqsRel (w : World) (n : Nat) (i : Value) (wr : World) : Prop := ∃ k : Nat, i = .int .i64 k ∧ k ≤ n ∧ Below w.heap.size w wr

set_option maxRecDepth 100000 in
set_option maxHeartbeats 16000000 in
theorem law_spines (f : Tm) (h : Hd) (l : List Tm) (lo : Option Addr) (lc : Nat) (w : World) (hin : f.In w.heap.size w h) (hl : RowIn w.heap.size w lo 0 l) :
    Calls Try.prog 6 #[f.val h, .slice lo l.length lc] w fun e w' => e = .returned (.bool true) ∧ Below w.heap.size w w' := by
  have HIN := Lib.hid hin
  have HL := Lib.hid hl
  have HD := Lib.hid (fun (W : World) (hW : Below w.heap.size w W) => Deep_any f h W (carry hin hW))
  unfold Tm.val at HD ⊢
  dsimp only [Tm.vals] at HD ⊢
  clear hin hl
  cases hdeep : f.deep
  · rw [hdeep] at HD
    clear hdeep
    by_cases h40 : 40 < l.length
    · go_enter Try.func6, Try.ntmps6
      go_wp2_with fail
      refine (HD.out _ (below_one w _)).mono ?_
      rintro e w1 ⟨rfl, b1⟩
      have HK1 := Lib.hid ((Kept.start w (f.box h)).step b1)
      clear b1
      go_wp2_with fail
      refine (works_any _).mono ?_
      rintro e w2 ⟨rfl, b2⟩
      have HE2 := Lib.hid (Trm.go HK1.out.bel b2)
      clear b2
      go_wp2_with fail
      go_ret
      exact ⟨rfl, HE2.out⟩
    · go_enter Try.func6, Try.ntmps6
      go_wp2_with fail
      refine (HD.out _ (below_one w _)).mono ?_
      rintro e w1 ⟨rfl, b1⟩
      have HK1 := Lib.hid ((Kept.start w (f.box h)).step b1)
      clear b1
      go_wp2_with fail
      go_loopw [6, 5] (fun i v wr => SuRel w (f.box h) l i v wr) (fun i _ _ => l.length - (intOf i).toNat)
      case atStart => exact ⟨0, 0, rfl, rfl, by omega, by omega, by omega, HK1.out⟩
      case round =>
        obtain ⟨k, n, rfl, rfl, hk, hn0, hn1, hkept⟩ := hrel
        have HK := Lib.hid hkept
        clear hkept
        by_cases hlt : k < l.length
        · obtain ⟨b, off, hao, hb, hx, ⟨p0, p1, p2, p3, p4⟩, hi⟩ := (HL.out.below HK.out.bel).place k hlt
          rw [Nat.zero_add] at p0 p1 p2 p3 p4
          have HI := Lib.hid (Tm.In.mono HK.out.bel.size _ _ hi)
          generalize l[k] = x at p0 p1 p2 p3 p4 HI
          have HXD := Lib.hid (fun (W : World) (hW : Below wr.heap.size wr W) => Deep_any x hx W (carry HI.out hW))
          have HXS := Lib.hid (fun (hd : x.deep = false) (W : World) (hW : Below wr.heap.size wr W) => Size_any x hx W (by have := deep_size hd; omega) (carry HI.out hW))
          have HXC := Lib.hid (fun (W : World) (hW : Below wr.heap.size wr W) => TCells.below ⟨p0, p1, p2, p3, p4⟩ hW (show b < wr.heap.size by have := HK.out.bel.size; omega))
          unfold Tm.val at HXD HXS
          dsimp only [Tm.vals] at HXD HXS
          have HAO := Lib.hid hao
          rw [hao]
          clear hao hi
          cases hxd : x.deep
          · have hsz := deep_size hxd
            have hsp := x.size_pos
            have HXZ := Lib.hid (HXS.out hxd)
            rw [hxd] at HXD
            clear hxd HXS
            generalize x.size = sz at hsz hsp HXZ
            go_wp2_with fail
            refine (HXD.out _ (Below.refl _ _)).mono ?_
            rintro e w2 ⟨rfl, b2⟩
            obtain ⟨q0, q1, q2, q3, q4⟩ := HXC.out _ b2
            have HK2 := Lib.hid (HK.out.step b2)
            have HB2 := Lib.hid b2
            clear b2 p0 p1 p2 p3 p4
            go_wp2_with fail
            refine (HXZ.out _ HB2.out).mono ?_
            rintro e w3 ⟨rfl, b3⟩
            have HK3 := Lib.hid (HK2.out.step b3)
            clear b3 q0 q1 q2 q3 q4
            go_wp2_with fail
            go_roundw
            case rel => exact ⟨k + 1, n + (sz + 1), by go_num, rfl, by omega, by omega, by omega, HK3.out⟩
            case measure => simp [intOf]; omega
          · rw [hxd] at HXD
            clear hxd HXS
            go_wp2_with fail
            refine (HXD.out _ (Below.refl _ _)).mono ?_
            rintro e w2 ⟨rfl, b2⟩
            have HK2 := Lib.hid (HK.out.step b2)
            clear b2 p0 p1 p2 p3 p4
            go_wp2_with fail
            refine (works_any _).mono ?_
            rintro e w3 ⟨rfl, b3⟩
            have HE3 := Lib.hid (Trm.go HK2.out.bel b3)
            clear b3
            go_wp2_with fail
            go_ret
            exact ⟨rfl, HE3.out⟩
        · by_cases hbig : 12000 < n
          · go_wp2_with fail
            refine (works_any _).mono ?_
            rintro e w2 ⟨rfl, b2⟩
            have HE2 := Lib.hid (Trm.go HK.out.bel b2)
            clear b2
            go_wp2_with fail
            go_ret
            exact ⟨rfl, HE2.out⟩
          · obtain ⟨X, hX⟩ : ∃ X, X = appl f l := ⟨_, rfl⟩
            have HX := Lib.hid hX
            have HRA := Lib.hid (fun (W : World) (hW : Below w.heap.size w W) => (show Calls Try.prog 44 #[.agg #[.int .u8 f.k, .int .i64 f.n, .string f.s, .slice h.lo f.ls.length h.lc, .slice h.to f.ts.length h.tc], .slice lo l.length lc] W (Made X W) from hX ▸ RefApply_any f h l lo lc W (carry HIN.out hW) (carryRow HL.out hW) (by omega)))
            have HPA := Lib.hid (fun (W : World) (hW : Below w.heap.size w W) => (show Calls Try.prog 45 #[.agg #[.int .u8 f.k, .int .i64 f.n, .string f.s, .slice h.lo f.ls.length h.lc, .slice h.to f.ts.length h.tc], .slice lo l.length lc] W (Made (if X.may = true then X else zeroTm) W) from hX ▸ PApply_any f h l lo lc W (carry HIN.out hW) (carryRow HL.out hW) (by omega)))
            clear hX
            obtain ⟨c0, c1, c2, c3, c4⟩ := five_cells (show wr.heap[w.heap.size]? = some (.cells #[_, _, _, _, _] 42) from HK.out.box)
            go_wp2_with fail
            refine (HRA.out _ HK.out.bel).mono ?_
            rintro e w8 ⟨hw, rfl, iW, b8⟩
            have HK8a := Lib.hid (HK.out.step b8)
            have HK8 := Lib.hid ((HK.out.step b8).more (X.box hw))
            have XW := Lib.hid (World.alloc_heap_new w8 (X.box hw))
            have IW := Lib.hid (carry iW (below_one w8 (X.box hw)))
            have hz8 : w.heap.size < w8.heap.size := Nat.lt_of_lt_of_le (Array.getElem?_eq_some_iff.1 HK.out.box).1 b8.size
            clear c0 c1 c2 c3 c4 b8 iW
            obtain ⟨c0, c1, c2, c3, c4⟩ := five_cells (show w8.heap[w.heap.size]? = some (.cells #[_, _, _, _, _] 42) from HK8a.out.box)
            have e8 : X.val hw = .agg #[.int .u8 X.k, .int .i64 X.n, .string X.s, .slice hw.lo X.ls.length hw.lc, .slice hw.to X.ts.length hw.tc] := rfl
            rw [e8]
            clear e8
            go_wp2_with fail
            refine (HPA.out _ HK8.out.bel).mono ?_
            cases hmay : X.may
            · rw [if_neg (by simp)]
              rintro e w10 ⟨ht, rfl, iT, b10⟩
              have HK10 := Lib.hid ((HK8.out.step b10).more (zeroTm.box ht))
              have XW10a := Lib.hid (Lvl.keep b10 XW.out)
              have XW10 := Lib.hid (keepA (Lvl.keep b10 XW.out) (zeroTm.box ht))
              have hz10 : w8.heap.size < w10.heap.size := (Array.getElem?_eq_some_iff.1 XW10a.out).1
              have XT10 := Lib.hid (World.alloc_heap_new w10 (zeroTm.box ht))
              have IW10 := Lib.hid (carry (carry IW.out b10) (below_one w10 (zeroTm.box ht)))
              have IT10 := Lib.hid (carry iT (below_one w10 (zeroTm.box ht)))
              clear c0 c1 c2 c3 c4 b10 iT
              have e10 : zeroTm.val ht = .agg #[.int .u8 zeroTm.k, .int .i64 zeroTm.n, .string zeroTm.s, .slice ht.lo zeroTm.ls.length ht.lc, .slice ht.to zeroTm.ts.length ht.tc] := rfl
              rw [e10]
              clear e10
              have HDX := Lib.hid (fun (W : World) (hW : Below (w10.alloc (zeroTm.box ht)).heap.size (w10.alloc (zeroTm.box ht)) W) => Deep_any X hw W (carry IW10.out hW))
              have HMX := Lib.hid (fun (W : World) (hW : Below (w10.alloc (zeroTm.box ht)).heap.size (w10.alloc (zeroTm.box ht)) W) => (show Calls Try.prog 29 #[X.val hw] W fun e w' => e = .returned (.bool false) ∧ Below W.heap.size W w' from hmay ▸ RefTMay_any X hw W (carry IW10.out hW)))
              have HSX := Lib.hid (fun (W : World) (hW : Below (w10.alloc (zeroTm.box ht)).heap.size (w10.alloc (zeroTm.box ht)) W) => (show Calls Try.prog 34 #[zeroTm.val ht, zeroTm.val ⟨none, 0, none, 0⟩] W fun e w' => e = .returned (.bool true) ∧ Below W.heap.size W w' from (same_iff.2 rfl : same zeroTm zeroTm = true) ▸ RefSame_any zeroTm zeroTm ht ⟨none, 0, none, 0⟩ W (carry IT10.out hW) (leaf_in (by decide) (by decide) (by decide) (by decide) (by decide))))
              unfold Tm.val at HDX HMX HSX
              dsimp only [Tm.vals] at HDX HMX
              change Hid (∀ (W : World), Below (w10.alloc (zeroTm.box ht)).heap.size (w10.alloc (zeroTm.box ht)) W → Calls Try.prog 34 #[.agg #[.int .u8 zeroTm.k, .int .i64 zeroTm.n, .string zeroTm.s, .slice ht.lo zeroTm.ls.length ht.lc, .slice ht.to zeroTm.ts.length ht.tc], .agg #[.int .u8 0, .int .i64 0, .string ⟨#[]⟩, .slice none 0 0, .slice none 0 0]] W fun e w' => e = .returned (.bool true) ∧ Below W.heap.size W w') at HSX
              clear hmay
              obtain ⟨c0, c1, c2, c3, c4⟩ := five_cells (show w10.heap[w8.heap.size]? = some (.cells #[_, _, _, _, _] 42) from XW10a.out)
              cases hdx : X.deep
              · rw [hdx] at HDX
                clear hdx
                go_wp2_with fail
                refine (HDX.out _ (Below.refl _ _)).mono ?_
                rintro e w11 ⟨rfl, b11⟩
                have HB11 := Lib.hid b11
                clear b11 c0 c1 c2 c3 c4
                obtain ⟨c0, c1, c2, c3, c4⟩ := five_cells (show w11.heap[w8.heap.size]? = some (.cells #[_, _, _, _, _] 42) from Lvl.keep HB11.out XW10.out)
                go_wp2_with fail
                refine (HMX.out _ HB11.out).mono ?_
                rintro e w12 ⟨rfl, b12⟩
                have HB12 := Lib.hid (Trm.go HB11.out b12)
                clear b12 c0 c1 c2 c3 c4
                obtain ⟨d0, d1, d2, d3, d4⟩ := five_cells (show w12.heap[w10.heap.size]? = some (.cells #[_, _, _, _, _] 42) from Lvl.keep HB12.out XT10.out)
                go_wp2_with fail
                refine (HSX.out _ HB12.out).mono ?_
                rintro e w13 ⟨rfl, b13⟩
                have HB13 := Lib.hid (Trm.go HK10.out.bel (Trm.go HB12.out b13))
                clear b13 d0 d1 d2 d3 d4
                go_wp2_with fail
                refine (works_any _).mono ?_
                rintro e w14 ⟨rfl, b14⟩
                have HE14 := Lib.hid (Trm.go HB13.out b14)
                clear b14
                go_wp2_with fail
                go_ret
                exact ⟨rfl, HE14.out⟩
              · rw [hdx] at HDX
                clear hdx
                go_wp2_with fail
                refine (HDX.out _ (Below.refl _ _)).mono ?_
                rintro e w11 ⟨rfl, b11⟩
                have HB11 := Lib.hid b11
                clear b11 c0 c1 c2 c3 c4
                have HB12 := Lib.hid HB11.out
                obtain ⟨d0, d1, d2, d3, d4⟩ := five_cells (show w11.heap[w10.heap.size]? = some (.cells #[_, _, _, _, _] 42) from Lvl.keep HB12.out XT10.out)
                go_wp2_with fail
                refine (HSX.out _ HB12.out).mono ?_
                rintro e w13 ⟨rfl, b13⟩
                have HB13 := Lib.hid (Trm.go HK10.out.bel (Trm.go HB12.out b13))
                clear b13 d0 d1 d2 d3 d4
                go_wp2_with fail
                refine (works_any _).mono ?_
                rintro e w14 ⟨rfl, b14⟩
                have HE14 := Lib.hid (Trm.go HB13.out b14)
                clear b14
                go_wp2_with fail
                go_ret
                exact ⟨rfl, HE14.out⟩
            · rw [if_pos rfl]
              have hlen : l.length < 4096 := by omega
              rintro e w10 ⟨ht, rfl, iT, b10⟩
              have hfm := (appl_facts (show (appl f l).may = true by rw [← HX.out]; exact hmay)).2
              have hdx := may_not_deep hmay
              have HMAY := Lib.hid hmay
              have HFM := Lib.hid hfm
              have HKA0 := Lib.hid (HK8.out.step b10)
              have XW0 := Lib.hid (Lvl.keep b10 XW.out)
              have hz10 : w8.heap.size < w10.heap.size := (Array.getElem?_eq_some_iff.1 XW0.out).1
              have IW0 := Lib.hid (carry IW.out b10)
              have IT0 := Lib.hid iT
              obtain ⟨wA, hwA⟩ : ∃ wA, wA = w10.alloc (X.box ht) := ⟨_, rfl⟩
              have hbA : Below w10.heap.size w10 wA := hwA ▸ below_one _ _
              have HKA := Lib.hid (HKA0.out.step hbA)
              have XW1 := Lib.hid (Lvl.keep hbA XW0.out)
              have XT1 := Lib.hid (show wA.heap[w10.heap.size]? = some (X.box ht) from hwA ▸ World.alloc_heap_new w10 _)
              have IW1 := Lib.hid (carry IW0.out hbA)
              have IT1 := Lib.hid (carry IT0.out hbA)
              clear c0 c1 c2 c3 c4 b10 iT hmay hfm hbA
              have e10 : X.val ht = .agg #[.int .u8 X.k, .int .i64 X.n, .string X.s, .slice ht.lo X.ls.length ht.lc, .slice ht.to X.ts.length ht.tc] := rfl
              rw [e10]
              clear e10
              have HDX := Lib.hid (fun (W : World) (hW : Below wA.heap.size wA W) => (show Calls Try.prog 27 #[.agg #[.int .u8 X.k, .int .i64 X.n, .string X.s, .slice hw.lo X.ls.length hw.lc, .slice hw.to X.ts.length hw.tc]] W fun e w' => e = .returned (.bool false) ∧ Below W.heap.size W w' from hdx ▸ Deep_any X hw W (carry IW1.out hW)))
              have HMX := Lib.hid (fun (W : World) (hW : Below wA.heap.size wA W) => (show Calls Try.prog 29 #[.agg #[.int .u8 X.k, .int .i64 X.n, .string X.s, .slice hw.lo X.ls.length hw.lc, .slice hw.to X.ts.length hw.tc]] W fun e w' => e = .returned (.bool true) ∧ Below W.heap.size W w' from HMAY.out ▸ RefTMay_any X hw W (carry IW1.out hW)))
              have HST := Lib.hid (fun (W : World) (hW : Below wA.heap.size wA W) => (show Calls Try.prog 46 #[.agg #[.int .u8 X.k, .int .i64 X.n, .string X.s, .slice ht.lo X.ls.length ht.lc, .slice ht.to X.ts.length ht.tc]] W (Spined X W) from Spine_yes X ht W (carry IT1.out hW) HMAY.out))
              have HSF := Lib.hid (fun (W : World) (hW : Below wA.heap.size wA W) => (show Calls Try.prog 46 #[.agg #[.int .u8 f.k, .int .i64 f.n, .string f.s, .slice h.lo f.ls.length h.lc, .slice h.to f.ts.length h.tc]] W (Spined f W) from Spine_yes f h W (carry HIN.out (Trm.go HKA.out.bel hW)) HFM.out))
              have HSM1 := Lib.hid (fun (W : World) (hW : Below wA.heap.size wA W) => (show Calls Try.prog 34 #[.agg #[.int .u8 X.k, .int .i64 X.n, .string X.s, .slice ht.lo X.ls.length ht.lc, .slice ht.to X.ts.length ht.tc], .agg #[.int .u8 X.k, .int .i64 X.n, .string X.s, .slice hw.lo X.ls.length hw.lc, .slice hw.to X.ts.length hw.tc]] W fun e w' => e = .returned (.bool true) ∧ Below W.heap.size W w' from (same_iff.2 rfl : same X X = true) ▸ RefSame_any X X ht hw W (carry IT1.out hW) (carry IW1.out hW)))
              clear hdx
              have ewA : w10.alloc (.cells #[.int .u8 X.k, .int .i64 X.n, .string X.s, .slice ht.lo X.ls.length ht.lc, .slice ht.to X.ts.length ht.tc] 42) = wA := hwA.symm
              go_upto_region 14 with fail
              first | rw [ewA] | rw [← hwA]
              clear ewA hwA
              obtain ⟨c0, c1, c2, c3, c4⟩ := five_cells (show wA.heap[w8.heap.size]? = some (.cells #[_, _, _, _, _] 42) from XW1.out)
              go_wp2_with fail
              refine (HDX.out _ (Below.refl _ _)).mono ?_
              rintro e w11 ⟨rfl, b11⟩
              have HB11 := Lib.hid b11
              clear b11 c0 c1 c2 c3 c4
              obtain ⟨c0, c1, c2, c3, c4⟩ := five_cells (show w11.heap[w8.heap.size]? = some (.cells #[_, _, _, _, _] 42) from Lvl.keep HB11.out XW1.out)
              go_wp2_with fail
              refine (HMX.out _ HB11.out).mono ?_
              rintro e w12 ⟨rfl, b12⟩
              have HB12 := Lib.hid (Trm.go HB11.out b12)
              clear b12 c0 c1 c2 c3 c4
              obtain ⟨c0, c1, c2, c3, c4⟩ := five_cells (show w12.heap[w10.heap.size]? = some (.cells #[_, _, _, _, _] 42) from Lvl.keep HB12.out XT1.out)
              go_wp2_with fail
              refine (HST.out _ HB12.out).mono ?_
              rintro e w13 ⟨g, hg, m, ao, cap, rfl, hapg, hgk, iG, iM, hml, b13⟩
              have HB13 := Lib.hid (Trm.go HB12.out b13)
              have HAPG := Lib.hid hapg
              have HGK := Lib.hid hgk
              have IG13 := Lib.hid iG
              have IM13 := Lib.hid iM
              have HBB := Lib.hid (Trm.go HB13.out (below_one w13 (g.box hg)))
              clear b13 c0 c1 c2 c3 c4 hapg iG iM
              obtain ⟨c0, c1, c2, c3, c4⟩ := five_cells (show w13.heap[w.heap.size]? = some (.cells #[_, _, _, _, _] 42) from (HKA.out.step HB13.out).box)
              have hz13 : w.heap.size < w13.heap.size := World.block_lt_of_cell? w13 _ c0
              have e13 : g.val hg = .agg #[.int .u8 g.k, .int .i64 g.n, .string g.s, .slice hg.lo g.ls.length hg.lc, .slice hg.to g.ts.length hg.tc] := rfl
              rw [e13]
              clear e13
              have hgk4 : (g.k == 4) = false := by simpa using hgk
              clear hgk
              go_wp2_with fail
              refine (HSF.out _ HBB.out).mono ?_
              rintro e w15 ⟨g2, hh, k2, ao2, cap2, rfl, hapf, hgk2, iH, iK, hkl, b15⟩
              obtain ⟨rfl, hmk⟩ := spine_facts (show appl f l = appl g m by rw [← HX.out]; exact HAPG.out) HGK.out hapf hgk2
              have HB15 := Lib.hid (Trm.go HBB.out b15)
              have XG15 := Lib.hid (Lvl.keep b15 (World.alloc_heap_new w13 (g.box hg)))
              have HMK := Lib.hid hmk
              have HM2 : Hid (m.length = k2.length + l.length) := Lib.hid (by rw [hmk]; simp)
              have hz15 : w13.heap.size < w15.heap.size := (Array.getElem?_eq_some_iff.1 XG15.out).1
              have hzw : w8.heap.size < w15.heap.size := by have := (Array.getElem?_eq_some_iff.1 (Lvl.keep HB15.out XW1.out)).1; exact this
              have hzt : w10.heap.size < w15.heap.size := by have := (Array.getElem?_eq_some_iff.1 (Lvl.keep HB15.out XT1.out)).1; exact this
              obtain ⟨wC, hwC⟩ : ∃ wC, wC = w15.alloc (g.box hh) := ⟨_, rfl⟩
              have hbC : Below w15.heap.size w15 wC := hwC ▸ below_one _ _
              have HBC := Lib.hid (Trm.go HB15.out hbC)
              have XG := Lib.hid (Lvl.keep hbC XG15.out)
              have XH := Lib.hid (show wC.heap[w15.heap.size]? = some (g.box hh) from hwC ▸ World.alloc_heap_new w15 _)
              have XTC := Lib.hid (Lvl.keep HBC.out XT1.out)
              have XWC := Lib.hid (Lvl.keep HBC.out XW1.out)
              have IG := Lib.hid (carry (carry (carry IG13.out (below_one w13 (g.box hg))) b15) hbC)
              have IM := Lib.hid (carryRow (carryRow (carryRow IM13.out (below_one w13 (g.box hg))) b15) hbC)
              have IH := Lib.hid (carry iH hbC)
              have IK := Lib.hid (carryRow iK hbC)
              have IL := Lib.hid (carryRow HL.out (Trm.go HKA.out.bel HBC.out))
              have HBW := Lib.hid (Trm.go HKA.out.bel HBC.out)
              clear b15 c0 c1 c2 c3 c4 hapf hgk2 iH iK hbC hmk
              have e15 : g.val hh = .agg #[.int .u8 g.k, .int .i64 g.n, .string g.s, .slice hh.lo g.ls.length hh.lc, .slice hh.to g.ts.length hh.tc] := rfl
              rw [e15]
              clear e15
              have HSM2 := Lib.hid (fun (W : World) (hW : Below wC.heap.size wC W) => (show Calls Try.prog 34 #[.agg #[.int .u8 g.k, .int .i64 g.n, .string g.s, .slice hg.lo g.ls.length hg.lc, .slice hg.to g.ts.length hg.tc], .agg #[.int .u8 g.k, .int .i64 g.n, .string g.s, .slice hh.lo g.ls.length hh.lc, .slice hh.to g.ts.length hh.tc]] W fun e w' => e = .returned (.bool true) ∧ Below W.heap.size W w' from (same_iff.2 rfl : same g g = true) ▸ RefSame_any g g hg hh W (carry IG.out hW) (carry IH.out hW)))
              have ewC : w15.alloc (.cells #[.int .u8 g.k, .int .i64 g.n, .string g.s, .slice hh.lo g.ls.length hh.lc, .slice hh.to g.ts.length hh.tc] 42) = wC := hwC.symm
              go_upto_region 18 with fail
              first | rw [ewC] | rw [← hwC]
              clear ewC hwC
              obtain ⟨c0, c1, c2, c3, c4⟩ := five_cells (show wC.heap[w10.heap.size]? = some (.cells #[_, _, _, _, _] 42) from XTC.out)
              obtain ⟨d0, d1, d2, d3, d4⟩ := five_cells (show wC.heap[w8.heap.size]? = some (.cells #[_, _, _, _, _] 42) from XWC.out)
              go_wp2_with fail
              refine (HSM1.out _ HBC.out).mono ?_
              rintro e w16 ⟨rfl, b16⟩
              have HB16 := Lib.hid b16
              clear b16 c0 c1 c2 c3 c4 d0 d1 d2 d3 d4
              obtain ⟨c0, c1, c2, c3, c4⟩ := five_cells (show w16.heap[w13.heap.size]? = some (.cells #[_, _, _, _, _] 42) from Lvl.keep HB16.out XG.out)
              obtain ⟨d0, d1, d2, d3, d4⟩ := five_cells (show w16.heap[w15.heap.size]? = some (.cells #[_, _, _, _, _] 42) from Lvl.keep HB16.out XH.out)
              go_wp2_with fail
              refine (HSM2.out _ HB16.out).mono ?_
              rintro e w0 ⟨rfl, b17⟩
              have HB17 := Lib.hid (Trm.go HB16.out b17)
              clear b17 c0 c1 c2 c3 c4 d0 d1 d2 d3 d4
              obtain ⟨c0, c1, c2, c3, c4⟩ := five_cells (show w0.heap[w13.heap.size]? = some (.cells #[_, _, _, _, _] 42) from Lvl.keep HB17.out XG.out)
              have hq1 : ((m.length : Int) != (k2.length : Int) + (l.length : Int)) = false := by have := HM2.out; simp; omega
              go_wp2_with fail
              have HIMs := Lib.hid IM.out
              clear c0 c1 c2 c3 c4
              go_loopw [13] (fun i wr => EqsRel w0 m.length i wr) (fun i _ => m.length - (intOf i).toNat)
              case atStart => exact ⟨0, rfl, by omega, Below.refl _ _⟩
              case round =>
                obtain ⟨j, rfl, hj, hbel⟩ := hrel
                have HR := Lib.hid hbel
                have HRC := Lib.hid (Trm.go HB17.out hbel)
                clear hbel
                by_cases hlt : j < m.length
                · obtain ⟨b1, off1, hao1, hb1, hx1, hpc1, hi1⟩ := (carryRow IM.out HRC.out).place j hlt
                  rw [Nat.zero_add] at hpc1
                  have HP1 := Lib.hid hpc1
                  have HI1 := Lib.hid hi1
                  have HNX : Hid (∀ wr', Below w0.heap.size w0 wr' → EqsRel w0 m.length (.int .i64 ((j : Int) + 1)) wr') := Lib.hid (fun wr' hb => ⟨j + 1, by go_num, by omega, hb⟩)
                  obtain ⟨x, hx⟩ : ∃ x, x = m[j] := ⟨_, rfl⟩
                  rw [← hx] at HP1 HI1
                  have HXM := Lib.hid hx
                  clear hpc1 hi1 hx
                  have hz1 : b1 < wr.heap.size := hb1
                  obtain ⟨p0, p1, p2, p3, p4⟩ := HP1.out
                  by_cases hcase : j < k2.length
                  · have HEL : Hid (m[j] = k2[j]) := Lib.hid (by have := HMK.out; subst this; exact List.getElem_append_left hcase)
                    obtain ⟨b2, off2, hao2, hb2, hx2, hpc2, hi2⟩ := (carryRow IK.out HRC.out).place j hcase
                    rw [Nat.zero_add, ← HEL.out, ← HXM.out] at hpc2
                    rw [← HEL.out, ← HXM.out] at hi2
                    have hz2 : b2 < wr.heap.size := hb2
                    have HI2 := Lib.hid hi2
                    have HSX := Lib.hid (fun (W : World) (hW : Below wr.heap.size wr W) => (show Calls Try.prog 34 #[.agg #[.int .u8 x.k, .int .i64 x.n, .string x.s, .slice hx1.lo x.ls.length hx1.lc, .slice hx1.to x.ts.length hx1.tc], .agg #[.int .u8 x.k, .int .i64 x.n, .string x.s, .slice hx2.lo x.ls.length hx2.lc, .slice hx2.to x.ts.length hx2.tc]] W fun e w' => e = .returned (.bool true) ∧ Below W.heap.size W w' from (same_iff.2 rfl : same x x = true) ▸ RefSame_any x x hx1 hx2 W (carry HI1.out hW) (carry HI2.out hW)))
                    obtain ⟨s0, s1, s2, s3, s4⟩ := hpc2
                    have HAO1 := Lib.hid hao1
                    have HAO2 := Lib.hid hao2
                    subst hao1
                    clear hi2 hb1 hb2
                    subst hao2
                    go_wp2_with fail
                    go_region_with (go_at_call 34; refine (HSX.out _ ?_).mono ?_; (first | exact Below.trans ((below_one wr _)) (Below.mono (Below.refl _ _).drew (by simp)) | exact ((Below.refl wr.heap.size wr).alloc (Nat.le_refl _) _).drew | exact (below_one wr _).drew); rintro e w9 ⟨rfl, b9⟩; have hb9 := b9)
                    all_goals
                      go_wp2_with fail
                      go_roundw
                      case rel => exact HNX.out _ (Trm.go HR.out ((below_one wr _).trans (Below.mono (undrew hb9) (by simp))))
                      case measure => simp [intOf]; omega
                  · obtain ⟨i2, hi2e⟩ : ∃ i2 : Nat, i2 = j - k2.length := ⟨_, rfl⟩
                    have hil : i2 < l.length := by have := HM2.out; omega
                    have HEL : Hid (m[j] = l[i2]) := Lib.hid (by
                      have := HMK.out
                      subst this
                      rw [List.getElem_append_right (by omega)]
                      congr 1
                      omega)
                    have hji : (j : Int) - (k2.length : Int) = (i2 : Int) := by omega
                    obtain ⟨b2, off2, hao2, hb2, hx2, hpc2, hi2⟩ := (carryRow IL.out HRC.out).place i2 hil
                    rw [Nat.zero_add, ← HEL.out, ← HXM.out] at hpc2
                    rw [← HEL.out, ← HXM.out] at hi2
                    clear hi2e
                    have hz2 : b2 < wr.heap.size := hb2
                    have HI2 := Lib.hid hi2
                    have HSX := Lib.hid (fun (W : World) (hW : Below wr.heap.size wr W) => (show Calls Try.prog 34 #[.agg #[.int .u8 x.k, .int .i64 x.n, .string x.s, .slice hx1.lo x.ls.length hx1.lc, .slice hx1.to x.ts.length hx1.tc], .agg #[.int .u8 x.k, .int .i64 x.n, .string x.s, .slice hx2.lo x.ls.length hx2.lc, .slice hx2.to x.ts.length hx2.tc]] W fun e w' => e = .returned (.bool true) ∧ Below W.heap.size W w' from (same_iff.2 rfl : same x x = true) ▸ RefSame_any x x hx1 hx2 W (carry HI1.out hW) (carry HI2.out hW)))
                    obtain ⟨s0, s1, s2, s3, s4⟩ := hpc2
                    have HAO1 := Lib.hid hao1
                    have HAO2 := Lib.hid hao2
                    subst hao1
                    clear hi2 hb1 hb2
                    subst hao2
                    go_wp2_with fail
                    go_region_with (go_at_call 34; refine (HSX.out _ ?_).mono ?_; (first | exact Below.trans ((below_one wr _)) (Below.mono (Below.refl _ _).drew (by simp)) | exact ((Below.refl wr.heap.size wr).alloc (Nat.le_refl _) _).drew | exact (below_one wr _).drew); rintro e w9 ⟨rfl, b9⟩; have hb9 := b9)
                    all_goals
                      go_wp2_with fail
                      go_roundw
                      case rel => exact HNX.out _ (Trm.go HR.out ((below_one wr _).trans (Below.mono (undrew hb9) (by simp))))
                      case measure => simp [intOf]; omega
                · have HPX := Lib.hid (fun (W : World) (hW : Below wr.heap.size wr W) => (show Calls Try.prog 45 #[.agg #[.int .u8 g.k, .int .i64 g.n, .string g.s, .slice hg.lo g.ls.length hg.lc, .slice hg.to g.ts.length hg.tc], .slice ao m.length cap] W (Made X W) from (show papp g m = X by unfold papp; rw [if_pos (by rw [← HAPG.out]; exact HMAY.out), ← HAPG.out]) ▸ PApply_any g hg m ao cap W (carry (carry IG.out HRC.out) hW) (carryRow (carryRow IM.out HRC.out) hW) (appl_facts (show (appl g m).may = true by rw [← HAPG.out]; exact HMAY.out)).1))
                  have HS3 := Lib.hid (fun (W : World) (hq : Hd) (hW : Below wr.heap.size wr W) (hi : X.In W.heap.size W hq) => (show Calls Try.prog 34 #[X.val hq, .agg #[.int .u8 X.k, .int .i64 X.n, .string X.s, .slice ht.lo X.ls.length ht.lc, .slice ht.to X.ts.length ht.tc]] W fun e w' => e = .returned (.bool true) ∧ Below W.heap.size W w' from (same_iff.2 rfl : same X X = true) ▸ RefSame_any X X hq ht W hi (carry (carry (carry IT1.out HBC.out) HRC.out) hW)))
                  have HWK := Lib.hid (fun (W : World) (_ : Below wr.heap.size wr W) => works_any W)
                  have XA := Lib.hid (Lvl.keep HRC.out XG.out)
                  have XB := Lib.hid (Lvl.keep HRC.out XTC.out)
                  obtain ⟨x0, x1, x2, x3, x4⟩ := five_cells (show wr.heap[w13.heap.size]? = some (.cells #[.int .u8 g.k, .int .i64 g.n, .string g.s, .slice hg.lo g.ls.length hg.lc, .slice hg.to g.ts.length hg.tc] 42) from XA.out)
                  obtain ⟨y0, y1, y2, y3, y4⟩ := five_cells (show wr.heap[w10.heap.size]? = some (.cells #[.int .u8 X.k, .int .i64 X.n, .string X.s, .slice ht.lo X.ls.length ht.lc, .slice ht.to X.ts.length ht.tc] 42) from XB.out)
                  have hbz : Below wr.heap.size wr wr.drew := (Below.refl _ _).drew
                  go_wp2_with fail
                  go_region_held3 (fun w' => Below wr.heap.size wr w' ∧ w'.cell? ⟨w13.heap.size, 0, none⟩ = some (.int .u8 g.k) ∧ w'.cell? ⟨w13.heap.size, 1, none⟩ = some (.int .i64 g.n) ∧ w'.cell? ⟨w13.heap.size, 2, none⟩ = some (.string g.s) ∧ w'.cell? ⟨w13.heap.size, 3, none⟩ = some (.slice hg.lo g.ls.length hg.lc) ∧ w'.cell? ⟨w13.heap.size, 4, none⟩ = some (.slice hg.to g.ts.length hg.tc) ∧ w'.cell? ⟨w10.heap.size, 0, none⟩ = some (.int .u8 X.k) ∧ w'.cell? ⟨w10.heap.size, 1, none⟩ = some (.int .i64 X.n) ∧ w'.cell? ⟨w10.heap.size, 2, none⟩ = some (.string X.s) ∧ w'.cell? ⟨w10.heap.size, 3, none⟩ = some (.slice ht.lo X.ls.length ht.lc) ∧ w'.cell? ⟨w10.heap.size, 4, none⟩ = some (.slice ht.to X.ts.length ht.tc))
                    (go_keep)
                    (first | (go_at_call 45; (with_reducible refine (HPX.out _ ?_).mono ?_); (first | assumption | exact (Below.refl _ _).drew); rintro e w3 ⟨hq, rfl, iQ, bw⟩; have hb3 : Below wr.heap.size wr w3 := Trm.go (by first | assumption | exact (Below.refl _ _).drew) bw; obtain ⟨x0, x1, x2, x3, x4⟩ := five_cells (Lvl.keep hb3 XA.out); obtain ⟨y0, y1, y2, y3, y4⟩ := five_cells (Lvl.keep hb3 XB.out)) | (go_at_call 34; (with_reducible refine (HS3.out _ hq ?_ ?_).mono ?_); (first | assumption | exact (Below.refl _ _).drew); (exact iQ); rintro e w3 ⟨rfl, bw⟩; have hb3 : Below wr.heap.size wr w3 := Trm.go (by first | assumption | exact (Below.refl _ _).drew) bw; obtain ⟨x0, x1, x2, x3, x4⟩ := five_cells (Lvl.keep hb3 XA.out); obtain ⟨y0, y1, y2, y3, y4⟩ := five_cells (Lvl.keep hb3 XB.out)) | (go_at_call 28; (with_reducible refine (HWK.out _ ?_).mono ?_); (first | assumption | exact (Below.refl _ _).drew); rintro e w3 ⟨rfl, bw⟩; have hb3 : Below wr.heap.size wr w3 := Trm.go (by first | assumption | exact (Below.refl _ _).drew) bw; obtain ⟨x0, x1, x2, x3, x4⟩ := five_cells (Lvl.keep hb3 XA.out); obtain ⟨y0, y1, y2, y3, y4⟩ := five_cells (Lvl.keep hb3 XB.out)))
                  all_goals
                    go_wp2_with fail
                    go_ret
                    exact ⟨rfl, Trm.go (Trm.go HBW.out HRC.out) (by assumption)⟩
  · rw [hdeep] at HD
    clear hdeep
    go_enter Try.func6, Try.ntmps6
    go_wp2_with fail
    refine (HD.out _ (below_one w _)).mono ?_
    rintro e w1 ⟨rfl, b1⟩
    have HK1 := Lib.hid ((Kept.start w (f.box h)).step b1)
    clear b1
    go_wp2_with fail
    refine (works_any _).mono ?_
    rintro e w2 ⟨rfl, b2⟩
    have HE2 := Lib.hid (Trm.go HK1.out.bel b2)
    clear b2
    go_wp2_with fail
    go_ret
    exact ⟨rfl, HE2.out⟩
end Go.Proofs.Ytnchanacembgfaa
