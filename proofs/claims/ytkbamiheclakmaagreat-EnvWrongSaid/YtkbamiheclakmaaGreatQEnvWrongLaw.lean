/-
  EnvWrong: an info that is taken is not taken with any one thing of it wrong.
-/
import Derived.Test.YtkbamiheclakmaaGreatQEnvWrgM
import Derived.Test.YtkbamiheclakmaaGreatQEnvSX
import Derived.Test.YtkbamiheclakmaaGreatQB13
import Derived.Test.YtkbamiheclakmaaGreatQB7
namespace Go.Proofs.YtkbamiheclakmaaGreat
open Go.RowKit Go.Shelf Go.Maps Lvl Trm Env

namespace Env
def WgRel (w0 : World) (l : List Inf) (e : Nat) (vi : Value) (wr : World) : Prop := ∃ (k : Nat) (L : List Ent) (P : Nat → Prop) (mo : Option Nat) (v : Value), vi = .int .i64 k ∧ k ≤ l.length ∧ L.length ≤ k ∧ (∀ p ∈ L, p.2.1.rules.length ≤ 1000) ∧ WS w0 wr P e L mo v
theorem AddTo.facts {L M : List Ent} {x : Inf} (a : AddTo L [x] M) (hr : x.rules.length ≤ 1000) (h : ∀ p ∈ L, p.2.1.rules.length ≤ 1000) : M.length ≤ L.length + 1 ∧ ∀ p ∈ M, p.2.1.rules.length ≤ 1000 := by
  rcases a with ⟨_, a⟩ | ⟨_, rfl⟩
  · obtain ⟨b, hd, rfl⟩ := a.one
    refine ⟨by simp, fun p hp => ?_⟩
    rcases List.mem_append.1 hp with hp | hp
    · exact h p hp
    · simp at hp; subst hp; exact hr
  · exact ⟨by omega, h⟩
theorem IBox.put {w : World} {b : Nat} {x : Inf} {h : IHd} (i : IBox w b x h) (j : Nat) (u : Value) {y : Inf} {g : IHd} (e : (x.vals h).toArray.setIfInBounds j u = (y.vals g).toArray) : IBox (w.setCell ⟨b, j, none⟩ u) b y g := by
  have h1 := cells_setE (i := j) i u
  rw [e] at h1
  exact h1
theorem IBox.put5 {w : World} {b : Nat} {x : Inf} {h : IHd} (i : IBox w b x h) (j : Nat) (v0 v1 v2 v3 v4 : Value) {y : Inf} {g : IHd} (e : (((((x.vals h).toArray.setIfInBounds j v0).setIfInBounds (j + 1) v1).setIfInBounds (j + 2) v2).setIfInBounds (j + 3) v3).setIfInBounds (j + 4) v4 = (y.vals g).toArray) : IBox (putO w b j v0 v1 v2 v3 v4) b y g := by
  have h1 := cells_setE (i := j + 4) (cells_setE (i := j + 3) (cells_setE (i := j + 2) (cells_setE (i := j + 1) (cells_setE (i := j) i v0) v1) v2) v3) v4
  rw [e] at h1
  exact h1
theorem tP_in {B : Nat} {w : World} {g : Nat} {fr : Nat × Nat} {ty : TypeId} (hg : w.heap[g]? = some (.cells #[.int .i64 0, .int .i64 0, .int .i64 (-1), .int .i64 (-1), .int .i64 (-1)] ty fr)) (hB : g < B) :
    tP.In B w ⟨some ⟨g, 0, none⟩, 1, none, 0⟩ := by
  refine Tm.In_iff.2 ⟨⟨by simp [tP, Tm.k], by simp [tP, Tm.k], by simp [tP, Tm.n], by simp [tP, Tm.n], by simp [tP, Tm.s, no, ByteArray.size], by simp [tP, Tm.ls], by simp [tP, Tm.ts]⟩, ⟨fun k hk => ?_⟩, fun _ a ha => by cases ha; exact hB, RowIn.mk fun i hi => by simp [tP, Tm.ts] at hi⟩
  have hk0 : k = 0 := by simp [tP, Tm.ls] at hk; omega
  subst hk0
  refine ⟨g, 0, rfl, ?_, ?_, ?_, ?_, ?_⟩ <;> (simp [World.cell?, hg, tP, Tm.ls])
end Env

set_option maxRecDepth 100000 in
set_option maxHeartbeats 32000000 in
theorem law_env_wrong (l : List Inf) (lo : Option Addr) (lc : Nat) (z1 : Int) (w : World) (hrow : InfRow w.heap.size w lo l) :
    Calls Tryz.prog 7 #[.slice lo l.length lc, .int .u8 z1] w fun e w' => e = .returned (.bool true) ∧ Below w.heap.size w w' := by
  have HROW := Lib.hid hrow
  clear hrow
  have HKR : ∀ {x : Inf} {h : IHd}, Hid ((Tryz.prog.info? 46).map (·.size) = some (x.vals h).toArray.size) := fun {x h} => Lib.hid infoInf
  have HKL : ∀ {x : Inf} {h : IHd}, Hid ((Tryz.prog.info? 46).map (·.size) = some (x.vals h).length) := fun {x h} => Lib.hid infoInf
  have HKZ : Hid (∀ (x : Inf) (h : IHd), Inf.zeros.size = (x.vals h).toArray.size) := Lib.hid (fun _ _ => rfl)
  have HKO : Hid (∀ (x : Inf) (h : IHd), (x.vals h).toArray.all (·.oneCell') = true) := Lib.hid (fun x h => vals_one x h)
  have HKS : Hid (∀ (x : Inf) (h : IHd), ∀ u ∈ x.vals h, u.oneCell' = true) := Lib.hid (fun x h u hu => by have := vals_one x h; rw [List.all_toArray, List.all_eq_true] at this; exact this u hu)
  go_enter Tryz.func7, Tryz.ntmps7
  go_wp2_with fail
  refine (few_any l lo lc w HROW.out).mono ?_
  rintro y w1 ⟨b, rfl, hfew, b1⟩
  have HFEW := Lib.hid hfew
  have HB1 := Lib.hid b1
  clear b1 hfew
  cases b
  · go_wp2_with fail
    refine (works7_any _).mono ?_
    rintro y wz ⟨rfl, bz⟩
    have HBZ := Lib.hid (Trm.go HB1.out bz)
    clear bz
    go_wp2_with fail
    go_ret
    exact ⟨rfl, HBZ.out⟩
  · have HF := Lib.hid (HFEW.out rfl)
    clear HFEW
    by_cases hmany : (20 : Int) < l.length
    · have hd : decide ((20 : Int) < l.length) = true := by simpa using hmany
      clear hmany
      go_wp2_with fail
      refine (works7_any _).mono ?_
      rintro y wz ⟨rfl, bz⟩
      have HBZ := Lib.hid (Trm.go HB1.out bz)
      clear bz
      go_wp2_with fail
      go_ret
      exact ⟨rfl, HBZ.out⟩
    · have hd : decide ((20 : Int) < l.length) = false := by simpa using hmany
      have HLL : Hid (l.length ≤ 20) := Lib.hid (by omega)
      clear hmany
      go_wp2_with fail
      refine (envNew_any _).mono ?_
      rintro y w2 ⟨rfl, hw2⟩
      obtain ⟨e, P0, h0⟩ : ∃ (e : Nat) (P0 : Nat → Prop), e = w1.heap.size ∧ WS w w2 P0 e [] none (.slice none 0 0) := ⟨w1.heap.size, _, rfl, hw2 ▸ WS.new HB1.out⟩
      rw [← h0.1]
      have H0 : Hid (WgRel w l e (.int .i64 (0 : Nat)) w2) := Lib.hid ⟨0, [], P0, none, _, rfl, by omega, by simp, by simp, h0.2⟩
      clear hw2 h0 hd
      go_upto_region 5 with fail
      go_loopw [6] (fun vi wr => WgRel w l e vi wr) (fun i _ => l.length - (intOf i).toNat)
      case atStart => exact H0.out
      case round =>
        obtain ⟨k, L, P, mo, v, rfl, hk, hLk, hrs, hws⟩ := hrel
        have H2 := Lib.hid hws
        have HRS := Lib.hid hrs
        have HLK := Lib.hid hLk
        clear hws hrs hLk
        by_cases hlt : k < l.length
        · obtain ⟨b, off, hd, hlo, hb, hrg, hin⟩ := HROW.out.place k hlt
          subst hlo
          obtain ⟨x, hx⟩ : ∃ x, x = l[k] := ⟨_, rfl⟩
          rw [← hx] at hrg hin
          have HX20 : Hid (x.rules.length ≤ 1000) := Lib.hid (by have := (HF.out.2 _ (List.getElem_mem hlt)).1; rw [hx]; omega)
          have hr0 := range_below hrg H2.out.bel hb
          have HFX := Lib.hid (show FirmI P wr x hd from FirmI.of (hin.below H2.out.bel) H2.out.base H2.out.bel.size)
          have HLT := Lib.hid hlt
          have hwk : wrap64 ((k : Int) + 1) = (k : Int) + 1 := IntWalk.wrap64_in _ (by have := HLL.out; omega)
          have hwk2 : IntKind.i64.wrap ((k : Int) + 1) = (k : Int) + 1 := IntWalk.i64_in _ (by have := HLL.out; omega)
          clear hrg hin hx hb
          go_wp2_with (first
            | (refine wpList_load_mid rfl 46 (.tmp 37) rfl b (off + k * 25) rfl (x.vals hd) _ hr0 Tryz.underlying46 rfl HKL.out ?_)
            | (refine Go.Great.wpList_buildSliceTo rfl 22 46 1 _ rfl wr.heap.size rfl (some 39) rfl Tryz.underlying22 (x.vals hd).toArray (by kernel_rfl) ?_))
          clear hr0
          refine (H2.out.addOne HFX.out HX20.out).mono ?_
          rintro y w3 ⟨rfl, M, mo', v', P', hto, hws3, _⟩
          have HM := Lib.hid (hto.facts HX20.out HRS.out)
          have H3 := Lib.hid hws3
          clear hto hws3
          go_wp2_with fail
          go_roundw
          case rel => exact ⟨k + 1, M, P', mo', v', by first | rfl | (rw [hwk]; rfl), HLT.out, by have := HM.out.1; have := HLK.out; omega, HM.out.2, H3.out⟩
          case measure => first | exact less_step rfl HLT.out | exact less_step hwk HLT.out
        · have HLF : Hid (L.length ≤ 20) := Lib.hid (by have := HLK.out; have := HLL.out; omega)
          go_wp2_with fail
          refine (SE_any _).mono ?_
          rintro y w3 ⟨hS, rfl, b3, f3⟩
          have H3 := Lib.hid (H2.out.below b3)
          have F3 := Lib.hid (ax_firm (s := ⟨#[98, 97, 115, 101, 39]⟩) (by decide) (f3 P H2.out.env.lt))
          clear b3 f3
          go_wp2_with (first
            | (refine wpList_buildTo rfl 46 _ rfl (some 43) rfl ((ax ⟨#[98, 97, 115, 101, 39]⟩ tS).vals { zIHd with ty := hS }).toArray (by kernel_rfl) ?_)
            | (refine Go.Great.wpList_buildSliceTo rfl 22 46 1 _ rfl w3.heap.size rfl (some 44) rfl Tryz.underlying22 ((ax ⟨#[98, 97, 115, 101, 39]⟩ tS).vals { zIHd with ty := hS }).toArray (by kernel_rfl) ?_))
          refine (H3.out.addOne F3.out (by decide)).mono ?_
          rintro y w4 ⟨rfl, M, mo', v', P', hto, hws4, _⟩
          have HM := Lib.hid (hto.facts (by decide) HRS.out)
          have HLM : Hid (M.length ≤ 40) := Lib.hid (by have := HM.out.1; have := HLF.out; omega)
          have H4 := Lib.hid hws4
          clear hto hws4 H3 F3 H2
          obtain ⟨zc, hzc⟩ : ∃ q, q = addA L [ax ⟨#[98, 97, 115, 101, 39]⟩ tS] := ⟨_, rfl⟩
          rw [← hzc]
          clear hzc
          go_wp2_with fail
          refine (SE_any _).mono ?_
          rintro y w5 ⟨hT, rfl, b5, f5⟩
          have H5 := Lib.hid (H4.out.below b5)
          have F5 := Lib.hid (f5 P' H4.out.env.lt)
          clear b5 f5 H4
          go_wp2_with fail
          refine (CE_any _ _).mono ?_
          rintro y w6 ⟨rfl, b6⟩
          have H6 := Lib.hid (H5.out.below b6)
          have F6 := Lib.hid (df_firm (s := ⟨#[103, 111, 111, 100, 39]⟩) (by decide) (F5.out.step (RanS.of_below b6)) (C_firm (P := P') (w := w6) ⟨#[98, 97, 115, 101, 39]⟩ (by decide)))
          clear b6 H5 F5
          obtain ⟨hg, hhg⟩ : ∃ hg : IHd, hg = { zIHd with ty := hT, va := zHd } := ⟨_, rfl⟩
          have F6b := Lib.hid (show FirmI P' w6 gI hg from hhg ▸ F6.out)
          go_upto_region 10 with (first
            | (refine wpList_buildTo rfl 46 _ rfl (some 48) rfl ((df ⟨#[103, 111, 111, 100, 39]⟩ tS (tC ⟨#[98, 97, 115, 101, 39]⟩)).vals { zIHd with ty := hT, va := zHd }).toArray (by kernel_rfl) ?_)
            | (refine wpList_store_row rfl 46 (.tmp 7) (.tmp 48) rfl w6.heap.size _ rfl rfl 46 Inf.zeros (World.alloc_heap_new _ _) HKR.out (HKZ.out _ _) (HKO.out _ _) ?_))
          rw [World.setRow_alloc_new]
          rw [show ((df ⟨#[103, 111, 111, 100, 39]⟩ tS (tC ⟨#[98, 97, 115, 101, 39]⟩)).vals { zIHd with ty := hT, va := zHd }).toArray = (gI.vals hg).toArray from by rw [hhg]; rfl]
          obtain ⟨W7, hW7⟩ : ∃ W, W = w6.alloc (.cells (gI.vals hg).toArray 46) := ⟨_, rfl⟩
          have H7 := Lib.hid (H6.out.below (show Below w6.heap.size w6 W7 from hW7 ▸ below_one _ _))
          have HG7 := Lib.hid (show HoldI P' W7 w6.heap.size gI hg from by rw [hW7]; exact HoldI.new F6b.out H6.out.env.lt)
          obtain ⟨bG, hbG⟩ : ∃ b, b = w6.heap.size := ⟨_, rfl⟩
          rw [← hbG] at HG7
          rw [← hW7, ← hbG]
          clear hW7 hbG hhg F6 F6b H6
          go_wp2_with fail
          refine (findP_any H7.out.env _ (by decide) HM.out.2).mono ?_
          intro y w8 hfd
          obtain ⟨z8, h8, b8, rfl, q8, hbb8, hff8⟩ := hfd.two
          have HBB8 := Lib.hid hbb8
          have HFF8 := Lib.hid hff8
          have HQ1 := Lib.hid (H7.out.below q8)
          have HQ2 := Lib.hid (HG7.out.step (Step.of_below q8))
          have HQB := Lib.hid q8
          clear hfd q8 hbb8 hff8 H7 HG7
          dsimp only
          go_upto_region 11 with (refine wpList_store_row rfl 46 (.tmp 8) (.tmp 52) rfl w8.heap.size _ rfl rfl 46 Inf.zeros (World.alloc_heap_new _ _) HKR.out (HKZ.out _ _) (HKO.out _ _) ?_)
          rw [World.setRow_alloc_new]
          obtain ⟨W8, hW⟩ : ∃ W, W = w8.alloc (.cells (z8.vals h8).toArray 46) := ⟨_, rfl⟩
          have hbel : Below w8.heap.size w8 W8 := hW ▸ below_one _ _
          have H8 := Lib.hid (HQ1.out.below hbel)
          have HB98 := Lib.hid (Trm.go HQB.out hbel)
          have HG8 := Lib.hid (HQ2.out.step (Step.of_below hbel))
          have HBX8 := Lib.hid (show IBox W8 w8.heap.size z8 h8 from hW ▸ World.alloc_heap_new _ _)
          have HFX8 := Lib.hid (HFF8.out.step (RanS.of_below hbel))
          obtain ⟨c8, hc⟩ : ∃ b, b = w8.heap.size := ⟨_, rfl⟩
          rw [← hc] at HBX8
          rw [← hW, ← hc]
          clear hW hc hbel HQ1 HQ2 HFF8 HQB
          go_wp2_with fail
          refine (findP_any H8.out.env _ (by decide) HM.out.2).mono ?_
          intro y w9 hfd
          obtain ⟨z9, h9, b9, rfl, q9, hbb9, hff9⟩ := hfd.two
          have HBB9 := Lib.hid hbb9
          have HFF9 := Lib.hid hff9
          have HQ1 := Lib.hid (H8.out.below q9)
          have HQ2 := Lib.hid (HG8.out.step (Step.of_below q9))
          have HQB := Lib.hid q9
          clear hfd q9 hbb9 hff9 H8 HG8
          dsimp only
          go_upto_region 12 with (refine wpList_store_row rfl 46 (.tmp 10) (.tmp 57) rfl w9.heap.size _ rfl rfl 46 Inf.zeros (World.alloc_heap_new _ _) HKR.out (HKZ.out _ _) (HKO.out _ _) ?_)
          rw [World.setRow_alloc_new]
          obtain ⟨W9, hW⟩ : ∃ W, W = w9.alloc (.cells (z9.vals h9).toArray 46) := ⟨_, rfl⟩
          have hbel : Below w9.heap.size w9 W9 := hW ▸ below_one _ _
          have H9 := Lib.hid (HQ1.out.below hbel)
          have HB99 := Lib.hid (Trm.go HQB.out hbel)
          have HG9 := Lib.hid (HQ2.out.step (Step.of_below hbel))
          have HBX9 := Lib.hid (show IBox W9 w9.heap.size z9 h9 from hW ▸ World.alloc_heap_new _ _)
          have HFX9 := Lib.hid (HFF9.out.step (RanS.of_below hbel))
          obtain ⟨c9, hc⟩ : ∃ b, b = w9.heap.size := ⟨_, rfl⟩
          rw [← hc] at HBX9
          rw [← hW, ← hc]
          clear hW hc hbel HQ1 HQ2 HFF9 HQB
          have HBW9 := Lib.hid (Below.refl W9.heap.size W9)
          go_wp2_with fail
          refine (findP_any H9.out.env _ (by decide) HM.out.2).mono ?_
          intro y w10 hfd
          obtain ⟨z10, h10, b10, rfl, q10, hbb10, hff10⟩ := hfd.two
          have HBB10 := Lib.hid hbb10
          have HFF10 := Lib.hid hff10
          have HQ1 := Lib.hid (H9.out.below q10)
          have HQ2 := Lib.hid (HG9.out.step (Step.of_below q10))
          have HQB := Lib.hid q10
          clear hfd q10 hbb10 hff10 H9 HG9
          dsimp only
          go_upto_region 13 with (refine wpList_store_row rfl 46 (.tmp 12) (.tmp 62) rfl w10.heap.size _ rfl rfl 46 Inf.zeros (World.alloc_heap_new _ _) HKR.out (HKZ.out _ _) (HKO.out _ _) ?_)
          rw [World.setRow_alloc_new]
          obtain ⟨W10, hW⟩ : ∃ W, W = w10.alloc (.cells (z10.vals h10).toArray 46) := ⟨_, rfl⟩
          have hbel : Below w10.heap.size w10 W10 := hW ▸ below_one _ _
          have H10 := Lib.hid (HQ1.out.below hbel)
          have HB910 := Lib.hid (Trm.go HQB.out hbel)
          have HG10 := Lib.hid (HQ2.out.step (Step.of_below hbel))
          have HBX10 := Lib.hid (show IBox W10 w10.heap.size z10 h10 from hW ▸ World.alloc_heap_new _ _)
          have HFX10 := Lib.hid (HFF10.out.step (RanS.of_below hbel))
          obtain ⟨c10, hc⟩ : ∃ b, b = w10.heap.size := ⟨_, rfl⟩
          rw [← hc] at HBX10
          rw [← hW, ← hc]
          clear hW hc hbel HQ1 HQ2 HFF10 HQB
          clear HBW9
          have HCT := Lib.hid (fun (W : World) (hW : Below W10.heap.size W10 W) => ((by obtain ⟨q0, q1, q2, q3, q4⟩ := (HBX9.out.keep (Trm.go HB910.out hW)).ty; exact ⟨q0, q1, q2, q3, q4⟩) : W.cell? ⟨c9, 3, none⟩ = some (.int .u8 z9.ty.k) ∧ W.cell? ⟨c9, 4, none⟩ = some (.int .i64 z9.ty.n) ∧ W.cell? ⟨c9, 5, none⟩ = some (.string z9.ty.s) ∧ W.cell? ⟨c9, 6, none⟩ = some (.slice h9.ty.lo z9.ty.ls.length h9.ty.lc) ∧ W.cell? ⟨c9, 7, none⟩ = some (.slice h9.ty.to z9.ty.ts.length h9.ty.tc)))
          have HB0 : Hid (Below W10.heap.size W10 W10.drew) := Lib.hid (Below.refl _ _).drew
          obtain ⟨t, ht⟩ : ∃ t, t = z9.ty := ⟨_, rfl⟩
          have HTF := Lib.hid (fun (W : World) (hW : Below W10.heap.size W10 W) => (HFX9.out.step (RanS.of_below (Trm.go HB910.out hW))).ty.here)
          rw [← ht] at HCT HTF
          clear ht
          go_wp2_with fail
          cases b8
          · cases b9
            · refine wp_region_held_drew (S := fun w' => w'.cell? ⟨c9, 3, none⟩ = some (.int .u8 t.k) ∧ w'.cell? ⟨c9, 4, none⟩ = some (.int .i64 t.n) ∧ w'.cell? ⟨c9, 5, none⟩ = some (.string t.s) ∧ w'.cell? ⟨c9, 6, none⟩ = some (.slice h9.ty.lo t.ls.length h9.ty.lc) ∧ w'.cell? ⟨c9, 7, none⟩ = some (.slice h9.ty.to t.ts.length h9.ty.tc)) (by kernel_rfl) (HCT.out _ HB0.out) (fun hHeld => ?_)
              refine wpAnyH_take (i := 0) (v := ?vwa0) rfl (by kernel_rfl) (by kernel_rfl) (by kernel_rfl) (fun _ _ _ h => h) (Or.inl ⟨by rfl, ?hywa0⟩) (by assumption) ?restwa0
              case hywa0 => (intro w hSw; (try dsimp only at hSw); go_simp <;> with_reducible rfl)
              try simp only [List.getElem_toArray, List.getElem_cons_zero, Act.put, List.setIfInBounds_toArray, List.set_cons_zero, List.set_cons_succ]
              refine wpAnyH_take (i := 1) (v := ?vwa1) rfl (by kernel_rfl) (by kernel_rfl) (by kernel_rfl) (fun _ _ _ h => h) (Or.inl ⟨by rfl, ?hywa1⟩) (by assumption) ?restwa1
              case hywa1 => (intro w hSw; (try dsimp only at hSw); go_simp <;> with_reducible rfl)
              try simp only [List.getElem_toArray, List.getElem_cons_succ, List.getElem_cons_zero, Act.put, List.setIfInBounds_toArray, List.set_cons_zero, List.set_cons_succ]
              refine wpAnyH_take (i := 2) (v := ?vwa2) rfl (by kernel_rfl) (by kernel_rfl) (by kernel_rfl) (fun _ _ _ h => h) (Or.inl ⟨by rfl, ?hywa2⟩) (by assumption) ?restwa2
              case hywa2 => (intro w hSw; (try dsimp only at hSw); go_simp <;> with_reducible rfl)
              try simp only [List.getElem_toArray, List.getElem_cons_succ, List.getElem_cons_zero, Act.put, List.setIfInBounds_toArray, List.set_cons_zero, List.set_cons_succ]
              refine wpAnyH_take (i := 3) (v := ?vwa3) rfl (by kernel_rfl) (by kernel_rfl) (by kernel_rfl) (fun _ _ _ h => h) (Or.inl ⟨by rfl, ?hywa3⟩) (by assumption) ?restwa3
              case hywa3 => (intro w hSw; (try dsimp only at hSw); go_simp <;> with_reducible rfl)
              try simp only [List.getElem_toArray, List.getElem_cons_succ, List.getElem_cons_zero, Act.put, List.setIfInBounds_toArray, List.set_cons_zero, List.set_cons_succ]
              refine wpAnyH_take (i := 4) (v := ?vwa4) rfl (by kernel_rfl) (by kernel_rfl) (by kernel_rfl) (fun _ _ _ h => h) (Or.inl ⟨by rfl, ?hywa4⟩) (by assumption) ?restwa4
              case hywa4 => (intro w hSw; (try dsimp only at hSw); go_simp <;> with_reducible rfl)
              try simp only [List.getElem_toArray, List.getElem_cons_succ, List.getElem_cons_zero, Act.put, List.setIfInBounds_toArray, List.set_cons_zero, List.set_cons_succ]
              refine wpAnyH_take (i := 5) (v := ?vwa5) rfl (by kernel_rfl) (by kernel_rfl) (by kernel_rfl) (fun _ _ _ h => h) (Or.inl ⟨by rfl, ?hywa5⟩) (by assumption) ?restwa5
              case hywa5 => (intro w hSw; (try dsimp only at hSw); go_simp <;> with_reducible rfl)
              try simp only [List.getElem_toArray, List.getElem_cons_succ, List.getElem_cons_zero, Act.put, List.setIfInBounds_toArray, List.set_cons_zero, List.set_cons_succ]
              refine wpAnyH_take (i := 6) (v := undef) rfl (by kernel_rfl) (by kernel_rfl) (by kernel_rfl) (fun _ _ _ h => h) (Or.inr ⟨by rfl, rfl⟩) (by assumption) ?_
              try simp only [List.getElem_toArray, List.getElem_cons_succ, List.getElem_cons_zero, Act.put, List.setIfInBounds_toArray, List.set_cons_zero, List.set_cons_succ]
              refine wpAnyH_take (i := 7) (v := ?vwa7) rfl (by kernel_rfl) (by kernel_rfl) (by kernel_rfl) (fun _ _ _ h => h) (Or.inl ⟨by rfl, ?hywa7⟩) (by assumption) ?restwa7
              case hywa7 => (intro w hSw; (try dsimp only at hSw); go_simp <;> with_reducible rfl)
              try simp only [List.getElem_toArray, List.getElem_cons_succ, List.getElem_cons_zero, Act.put, List.setIfInBounds_toArray, List.set_cons_zero, List.set_cons_succ]
              refine wpAnyH_take (i := 8) (v := ?vwa8) rfl (by kernel_rfl) (by kernel_rfl) (by kernel_rfl) (fun _ _ _ h => h) (Or.inl ⟨by rfl, ?hywa8⟩) (by assumption) ?restwa8
              case hywa8 => (intro w hSw; (try dsimp only at hSw); go_simp <;> with_reducible rfl)
              try simp only [List.getElem_toArray, List.getElem_cons_succ, List.getElem_cons_zero, Act.put, List.setIfInBounds_toArray, List.set_cons_zero, List.set_cons_succ]
              refine wpAnyH_take (i := 9) (v := undef) rfl (by kernel_rfl) (by kernel_rfl) (by kernel_rfl) (fun _ _ _ h => h) (Or.inr ⟨by rfl, rfl⟩) (by assumption) ?_
              try simp only [List.getElem_toArray, List.getElem_cons_succ, List.getElem_cons_zero, Act.put, List.setIfInBounds_toArray, List.set_cons_zero, List.set_cons_succ]
              refine wpAnyH_take (i := 10) (v := undef) rfl (by kernel_rfl) (by kernel_rfl) (by kernel_rfl) (fun _ _ _ h => h) (Or.inr ⟨by rfl, rfl⟩) (by assumption) ?_
              try simp only [List.getElem_toArray, List.getElem_cons_succ, List.getElem_cons_zero, Act.put, List.setIfInBounds_toArray, List.set_cons_zero, List.set_cons_succ]
              refine wpAnyH_take (i := 11) (v := undef) rfl (by kernel_rfl) (by kernel_rfl) (by kernel_rfl) (fun _ _ _ h => h) (Or.inr ⟨by rfl, rfl⟩) (by assumption) ?_
              try simp only [List.getElem_toArray, List.getElem_cons_succ, List.getElem_cons_zero, Act.put, List.setIfInBounds_toArray, List.set_cons_zero, List.set_cons_succ]
              refine wpAnyH_take (i := 12) (v := undef) rfl (by kernel_rfl) (by kernel_rfl) (by kernel_rfl) (fun _ _ _ h => h) (Or.inr ⟨by rfl, rfl⟩) (by assumption) ?_
              try simp only [List.getElem_toArray, List.getElem_cons_succ, List.getElem_cons_zero, Act.put, List.setIfInBounds_toArray, List.set_cons_zero, List.set_cons_succ]
              refine wpAnyH_take (i := 13) (v := undef) rfl (by kernel_rfl) (by kernel_rfl) (by kernel_rfl) (fun _ _ _ h => h) (Or.inr ⟨by rfl, rfl⟩) (by assumption) ?_
              try simp only [List.getElem_toArray, List.getElem_cons_succ, List.getElem_cons_zero, Act.put, List.setIfInBounds_toArray, List.set_cons_zero, List.set_cons_succ]
              refine wpAnyH_take (i := 14) (v := ?vwa14) rfl (by kernel_rfl) (by kernel_rfl) (by kernel_rfl) (fun _ _ _ h => h) (Or.inl ⟨by rfl, ?hywa14⟩) (by assumption) ?restwa14
              case hywa14 => (intro w hSw; (try dsimp only at hSw); go_simp <;> with_reducible rfl)
              try simp only [List.getElem_toArray, List.getElem_cons_succ, List.getElem_cons_zero, Act.put, List.setIfInBounds_toArray, List.set_cons_zero, List.set_cons_succ]
              refine wpAnyH_done (by kernel_rfl) ?_ _
              go_wp2_with fail
              refine (works7_any _).mono ?_
              rintro y wz ⟨rfl, bz⟩
              have HBZ := Lib.hid (Trm.go (Trm.go H10.out.bel HB0.out) bz)
              clear bz
              go_wp2_with fail
              go_ret
              exact ⟨rfl, HBZ.out⟩
            · cases b10
              · refine wp_region_held_drew (S := fun w' => w'.cell? ⟨c9, 3, none⟩ = some (.int .u8 t.k) ∧ w'.cell? ⟨c9, 4, none⟩ = some (.int .i64 t.n) ∧ w'.cell? ⟨c9, 5, none⟩ = some (.string t.s) ∧ w'.cell? ⟨c9, 6, none⟩ = some (.slice h9.ty.lo t.ls.length h9.ty.lc) ∧ w'.cell? ⟨c9, 7, none⟩ = some (.slice h9.ty.to t.ts.length h9.ty.tc)) (by kernel_rfl) (HCT.out _ HB0.out) (fun hHeld => ?_)
                refine wpAnyH_take (i := 0) (v := ?vwb0) rfl (by kernel_rfl) (by kernel_rfl) (by kernel_rfl) (fun _ _ _ h => h) (Or.inl ⟨by rfl, ?hywb0⟩) (by assumption) ?restwb0
                case hywb0 => (intro w hSw; (try dsimp only at hSw); go_simp <;> with_reducible rfl)
                try simp only [List.getElem_toArray, List.getElem_cons_zero, Act.put, List.setIfInBounds_toArray, List.set_cons_zero, List.set_cons_succ]
                refine wpAnyH_take (i := 1) (v := ?vwb1) rfl (by kernel_rfl) (by kernel_rfl) (by kernel_rfl) (fun _ _ _ h => h) (Or.inl ⟨by rfl, ?hywb1⟩) (by assumption) ?restwb1
                case hywb1 => (intro w hSw; (try dsimp only at hSw); go_simp <;> with_reducible rfl)
                try simp only [List.getElem_toArray, List.getElem_cons_succ, List.getElem_cons_zero, Act.put, List.setIfInBounds_toArray, List.set_cons_zero, List.set_cons_succ]
                refine wpAnyH_take (i := 2) (v := ?vwb2) rfl (by kernel_rfl) (by kernel_rfl) (by kernel_rfl) (fun _ _ _ h => h) (Or.inl ⟨by rfl, ?hywb2⟩) (by assumption) ?restwb2
                case hywb2 => (intro w hSw; (try dsimp only at hSw); go_simp <;> with_reducible rfl)
                try simp only [List.getElem_toArray, List.getElem_cons_succ, List.getElem_cons_zero, Act.put, List.setIfInBounds_toArray, List.set_cons_zero, List.set_cons_succ]
                refine wpAnyH_take (i := 3) (v := ?vwb3) rfl (by kernel_rfl) (by kernel_rfl) (by kernel_rfl) (fun _ _ _ h => h) (Or.inl ⟨by rfl, ?hywb3⟩) (by assumption) ?restwb3
                case hywb3 => (intro w hSw; (try dsimp only at hSw); go_simp <;> with_reducible rfl)
                try simp only [List.getElem_toArray, List.getElem_cons_succ, List.getElem_cons_zero, Act.put, List.setIfInBounds_toArray, List.set_cons_zero, List.set_cons_succ]
                refine wpAnyH_take (i := 4) (v := ?vwb4) rfl (by kernel_rfl) (by kernel_rfl) (by kernel_rfl) (fun _ _ _ h => h) (Or.inl ⟨by rfl, ?hywb4⟩) (by assumption) ?restwb4
                case hywb4 => (intro w hSw; (try dsimp only at hSw); go_simp <;> with_reducible rfl)
                try simp only [List.getElem_toArray, List.getElem_cons_succ, List.getElem_cons_zero, Act.put, List.setIfInBounds_toArray, List.set_cons_zero, List.set_cons_succ]
                refine wpAnyH_take (i := 5) (v := ?vwb5) rfl (by kernel_rfl) (by kernel_rfl) (by kernel_rfl) (fun _ _ _ h => h) (Or.inl ⟨by rfl, ?hywb5⟩) (by assumption) ?restwb5
                case hywb5 => (intro w hSw; (try dsimp only at hSw); go_simp <;> with_reducible rfl)
                try simp only [List.getElem_toArray, List.getElem_cons_succ, List.getElem_cons_zero, Act.put, List.setIfInBounds_toArray, List.set_cons_zero, List.set_cons_succ]
                refine wpAnyH_take (i := 6) (v := ?vwb6) rfl (by kernel_rfl) (by kernel_rfl) (by kernel_rfl) (fun _ _ _ h => h) (Or.inl ⟨by rfl, ?hywb6⟩) (by assumption) ?restwb6
                case hywb6 => (intro w hSw; (try dsimp only at hSw); go_simp <;> with_reducible rfl)
                try simp only [List.getElem_toArray, List.getElem_cons_succ, List.getElem_cons_zero, Act.put, List.setIfInBounds_toArray, List.set_cons_zero, List.set_cons_succ]
                refine wpAnyH_take (i := 7) (v := ?vwb7) rfl (by kernel_rfl) (by kernel_rfl) (by kernel_rfl) (fun _ _ _ h => h) (Or.inl ⟨by rfl, ?hywb7⟩) (by assumption) ?restwb7
                case hywb7 => (intro w hSw; (try dsimp only at hSw); go_simp <;> with_reducible rfl)
                try simp only [List.getElem_toArray, List.getElem_cons_succ, List.getElem_cons_zero, Act.put, List.setIfInBounds_toArray, List.set_cons_zero, List.set_cons_succ]
                refine wpAnyH_take (i := 8) (v := ?vwb8) rfl (by kernel_rfl) (by kernel_rfl) (by kernel_rfl) (fun _ _ _ h => h) (Or.inl ⟨by rfl, ?hywb8⟩) (by assumption) ?restwb8
                case hywb8 => (intro w hSw; (try dsimp only at hSw); go_simp <;> with_reducible rfl)
                try simp only [List.getElem_toArray, List.getElem_cons_succ, List.getElem_cons_zero, Act.put, List.setIfInBounds_toArray, List.set_cons_zero, List.set_cons_succ]
                refine wpAnyH_take (i := 9) (v := ?vwb9) rfl (by kernel_rfl) (by kernel_rfl) (by kernel_rfl) (fun _ _ _ h => h) (Or.inl ⟨by rfl, ?hywb9⟩) (by assumption) ?restwb9
                case hywb9 => (intro w hSw; (try dsimp only at hSw); go_simp <;> with_reducible rfl)
                try simp only [List.getElem_toArray, List.getElem_cons_succ, List.getElem_cons_zero, Act.put, List.setIfInBounds_toArray, List.set_cons_zero, List.set_cons_succ]
                refine wpAnyH_take (i := 10) (v := ?vwb10) rfl (by kernel_rfl) (by kernel_rfl) (by kernel_rfl) (fun _ _ _ h => h) (Or.inl ⟨by rfl, ?hywb10⟩) (by assumption) ?restwb10
                case hywb10 => (intro w hSw; (try dsimp only at hSw); go_simp <;> with_reducible rfl)
                try simp only [List.getElem_toArray, List.getElem_cons_succ, List.getElem_cons_zero, Act.put, List.setIfInBounds_toArray, List.set_cons_zero, List.set_cons_succ]
                refine wpAnyH_ready (rs := [11]) (by kernel_rfl) (by simp) ?_
                refine AllReadyH.cons rfl (fun K hK => ?_) AllReadyH.nil
                go_simp
                refine (SX_any _).mono ?_
                rintro y v1 ⟨g1, rfl, hg1, hg2, k1⟩
                have HBv1 := Lib.hid (Trm.go HB0.out k1)
                have HSI := Lib.hid (show tS.In v1.heap.size v1 ⟨some ⟨g1, 0, none⟩, 1, none, 0⟩ from tS_in hg1 (Array.getElem?_eq_some_iff.1 hg1).1)
                clear k1 hg1 hg2
                unfold Tm.val Tm.vals
                refine hK.out _ _ (HCT.out v1 HBv1.out) (fun hHeld => ?_)
                clear hK K
                refine wpAnyH_ready (rs := [12]) (by kernel_rfl) (by simp) ?_
                refine AllReadyH.cons rfl (fun K hK => ?_) AllReadyH.nil
                go_simp
                refine (show Calls Tryz.prog 28 #[t.val h9.ty, tS.val ⟨some ⟨g1, 0, none⟩, 1, none, 0⟩] v1 (fun e w' => e = .returned (.bool (same t tS)) ∧ Below v1.heap.size v1 w') from RefSame_any t tS h9.ty _ v1 (HTF.out v1 HBv1.out) HSI.out).mono ?_
                rintro y v2 ⟨rfl, k2⟩
                have HBv2 := Lib.hid (Trm.go HBv1.out k2)
                clear k2
                refine hK.out _ _ (HCT.out v2 HBv2.out) (fun hHeld => ?_)
                clear hK K
                try simp only [List.getElem_toArray, List.getElem_cons_succ, List.getElem_cons_zero, Act.put, List.setIfInBounds_toArray, List.set_cons_zero, List.set_cons_succ]
                refine wpAnyH_take (i := 13) (v := ?vwb13) rfl (by kernel_rfl) (by kernel_rfl) (by kernel_rfl) (fun _ _ _ h => h) (Or.inl ⟨by rfl, ?hywb13⟩) (by assumption) ?restwb13
                case hywb13 => (intro w hSw; (try dsimp only at hSw); go_simp <;> with_reducible rfl)
                try simp only [List.getElem_toArray, List.getElem_cons_succ, List.getElem_cons_zero, Act.put, List.setIfInBounds_toArray, List.set_cons_zero, List.set_cons_succ]
                refine wpAnyH_take (i := 14) (v := ?vwb14) rfl (by kernel_rfl) (by kernel_rfl) (by kernel_rfl) (fun _ _ _ h => h) (Or.inl ⟨by rfl, ?hywb14⟩) (by assumption) ?restwb14
                case hywb14 => (intro w hSw; (try dsimp only at hSw); go_simp <;> with_reducible rfl)
                try simp only [List.getElem_toArray, List.getElem_cons_succ, List.getElem_cons_zero, Act.put, List.setIfInBounds_toArray, List.set_cons_zero, List.set_cons_succ]
                refine wpAnyH_done (by kernel_rfl) ?_ _
                cases same t tS
                · go_wp2_with fail
                  refine (works7_any _).mono ?_
                  rintro y wz ⟨rfl, bz⟩
                  have HBZ := Lib.hid (Trm.go (Trm.go H10.out.bel HBv2.out) bz)
                  clear bz
                  go_wp2_with fail
                  go_ret
                  exact ⟨rfl, HBZ.out⟩
                · have HLFT : Hid (LFacts M) := Lib.hid ⟨by have h := HBB8.out; cases hq : lookE M (key ⟨#[103, 111, 111, 100, 39]⟩) with
                    | none => exact hq
                    | some p => rw [hq] at h; simp at h, HBB9.out.1 rfl, by have h := HBB10.out; cases hq : lookE M (key ⟨#[110, 111, 98, 111, 100, 121, 39]⟩) with
                    | none => exact hq
                    | some p => rw [hq] at h; simp at h, HLM.out⟩
                  have H11 := Lib.hid (H10.out.below HBv2.out)
                  have HG11 := Lib.hid (HG10.out.step (Step.of_below HBv2.out))
                  clear HTF HCT hHeld HSI HB0
                  have hgrow := HG11.out.1
                  go_upto_region 16 with (first
                    | (refine wpList_load_row rfl 46 (.tmp 7) rfl bG rfl 46 _ (0, 0) _ hgrow Tryz.underlying46 rfl HKR.out ?_)
                    | (refine wpList_store_row rfl 46 (.tmp 14) (.tmp 80) rfl v2.heap.size _ rfl rfl 46 Inf.zeros (World.alloc_heap_new _ _) HKR.out (HKZ.out _ _) (HKO.out _ _) ?_))
                  rw [World.setRow_alloc_new]
                  clear hgrow
                  obtain ⟨W0, hW0⟩ : ∃ W, W = v2.alloc (.cells (gI.vals hg).toArray 46) := ⟨_, rfl⟩
                  have H12 := Lib.hid (H11.out.below (show Below v2.heap.size v2 W0 from hW0 ▸ below_one _ _))
                  have HG12 := Lib.hid (HG11.out.step (Step.of_below (show Below v2.heap.size v2 W0 from hW0 ▸ below_one _ _)))
                  have HX12 := Lib.hid (show IBox W0 v2.heap.size gI hg from hW0 ▸ World.alloc_heap_new _ _)
                  have HBW := Lib.hid (show Below v2.heap.size v2 W0 from hW0 ▸ below_one _ _)
                  have HNP : Hid (∀ q, P' q → q < v2.heap.size) := Lib.hid H11.out.env.lt
                  obtain ⟨b14, hb14⟩ : ∃ b, b = v2.heap.size := ⟨_, rfl⟩
                  have HLE : Hid (b14 < W0.heap.size) := Lib.hid (by rw [hb14, hW0, World.size_alloc]; omega)
                  have HV14 : Hid (v2.heap.size ≤ b14) := Lib.hid (by omega)
                  rw [← hb14] at HX12 HNP
                  rw [← hW0, ← hb14]
                  clear hW0 hb14 H10 HG10
                  have HCX := Lib.hid (fun j => HX12.out.cell j)
                  have HCF := Lib.hid (fun j => HX12.out.free j)
                  go_upto_region 20 with fail
                  obtain ⟨R, hR⟩ : ∃ R, R = z1.tmod 9 := ⟨_, rfl⟩
                  rw [← hR]
                  clear hR
                  by_cases h0 : R = 0
                  · have e0 : (R == 0) = true := by simp [h0]
                    clear h0
                    have c1 : W0.cell? ⟨b14, 1, none⟩ = some (.string ⟨#[103, 111, 111, 100, 39]⟩) := HCX.out 1
                    have f1 := HCF.out 1
                    go_upto_region 46 with fail
                    clear c1 f1
                    obtain ⟨Wf, hWf⟩ : ∃ W, W = W0.setCell ⟨b14, 1, none⟩ (.string ⟨#[98, 97, 115, 101, 39]⟩) := ⟨_, rfl⟩
                    have hbelF : Below v2.heap.size v2 Wf := by rw [hWf]; exact HBW.out.trans ((set_ranE (P := fun q => q = b14) W0 b14 1 _ rfl).below (fun q hq => by rw [hq]; exact HV14.out) HBW.out.size)
                    have HF1 := Lib.hid (H11.out.below hbelF)
                    have HG1 := Lib.hid (HG11.out.step (Step.of_below hbelF))
                    have HFB := Lib.hid (show FirmI P' Wf gI hg from HG1.out.2.2)
                    have HH1 := Lib.hid (show HoldI P' Wf b14 ({ gI with name := nBase } : Inf) hg from ⟨by rw [hWf]; exact (HX12.out.put 1 _ rfl : IBox _ b14 ({ gI with name := nBase } : Inf) hg), fun q => by have := HNP.out b14 q; omega, ⟨⟨by decide, by decide, by decide, by decide⟩, HFB.out.ty, HFB.out.va, HFB.out.rules⟩⟩)
                    skip
                    rw [← hWf]
                    clear hWf hbelF HX12 HCX HCF
                    have HW1 : Hid (addA M [({ gI with name := nBase } : Inf)] = 5) := Lib.hid (bad_want HLFT.out (({ gI with name := nBase } : Inf), 5) (by simp [bads]))
                    have HW2 : Hid (addA M [gI, ({ gI with name := nBase } : Inf)] ≠ 0) := Lib.hid (bad_two HLFT.out (({ gI with name := nBase } : Inf), 5) (by simp [bads]))
                    have HLS := Lib.hid (fun (W : World) (P : Nat → Prop) (mo : Option Nat) (v : Value) (hW : WS w W P e M mo v) => (show Calls Tryz.prog 17 #[.pointer (some ⟨e, 0, none⟩)] W (fun y w' => ∃ a c, y = .returned (.slice a M.length c) ∧ Below W.heap.size W w') from (list_any hW.env.env).mono (fun y w' h => by
                      obtain ⟨v', rfl, hr, hb⟩ := h
                      obtain ⟨a, c, rfl⟩ := row_slice hr
                      exact ⟨a, c, rfl, hb⟩)))
                    go_wp2_with fail
                    refine (HLS.out _ _ _ _ HF1.out).mono ?_
                    rintro y x1 ⟨a1, c1, rfl, k1⟩
                    have HF2 := Lib.hid (HF1.out.below k1)
                    have HH2 := Lib.hid (HH1.out.step (Step.of_below k1))
                    have HG2 := Lib.hid (HG1.out.step (Step.of_below k1))
                    clear k1 HF1 HH1 HG1
                    have hrow := HH2.out.1
                    go_wp2_with (first
                      | (refine wpList_load_row rfl 46 (.tmp 14) rfl b14 rfl 46 _ (0, 0) _ hrow Tryz.underlying46 rfl HKR.out ?_)
                      | (refine Go.Great.wpList_buildSliceTo rfl 22 46 1 _ rfl x1.heap.size rfl (some 123) rfl Tryz.underlying22 (({ gI with name := nBase } : Inf).vals hg).toArray (by kernel_rfl) ?_))
                    clear hrow
                    refine (HF2.out.addOne HH2.out.2.2 (by decide)).mono ?_
                    rintro y x2 ⟨rfl, M2, mo2, v2', P2, hto, hws, hst⟩
                    have hM2 : M2 = M := hto.no (by rw [HW1.out]; decide)
                    subst hM2
                    have HF3 := Lib.hid hws
                    have HH3 := Lib.hid (HH2.out.step hst)
                    have HG3 := Lib.hid (HG2.out.step hst)
                    rw [HW1.out]
                    clear hto hws hst HF2 HH2 HG2
                    have hrow := HH3.out.1
                    have hgrow := HG3.out.1
                    go_wp2_with (first
                      | (refine wpList_load_rowG rfl 46 (.tmp 7) rfl (some 129) rfl bG rfl 46 _ (0, 0) _ hgrow Tryz.underlying46 rfl HKR.out ?_)
                      | (refine wpList_load_rowG rfl 46 (.tmp 14) rfl (some 130) rfl b14 rfl 46 _ (0, 0) _ hrow Tryz.underlying46 rfl HKR.out ?_)
                      | (refine wpList_bsliceG rfl 22 46 2 _ rfl (some 131) rfl ((gI.vals hg) ++ (({ gI with name := nBase } : Inf).vals hg)).toArray Tryz.underlying22 (by kernel_rfl) ?_))
                    clear hrow hgrow
                    refine (HF3.out.addTwo HG3.out.2.2 HH3.out.2.2 (by decide) (by decide)).mono ?_
                    rintro y x3 ⟨rfl, M3, mo3, v3', P3, hto, hws, hst⟩
                    have hM3 : M3 = M2 := hto.no HW2.out
                    subst hM3
                    have HF4 := Lib.hid hws
                    have HG4 := Lib.hid (HG3.out.step hst)
                    obtain ⟨zc2, hzc2⟩ : ∃ q, q = addA M3 [gI, ({ gI with name := nBase } : Inf)] := ⟨_, rfl⟩
                    have hz1 : (zc2 == 0) = false := by have := HW2.out; rw [← hzc2] at this; simpa using this
                    rw [← hzc2]
                    clear hto hws hst HF3 HH3 HG3 hzc2
                    go_wp2_with fail
                    refine (HLS.out _ _ _ _ HF4.out).mono ?_
                    rintro y x4 ⟨a4, c4, rfl, k4⟩
                    have HF5 := Lib.hid (HF4.out.below k4)
                    have HG5 := Lib.hid (HG4.out.step (Step.of_below k4))
                    clear k4 HF4 HG4
                    go_upto_region 49 with fail
                    have hgrow := HG5.out.1
                    go_wp2_with (first
                      | (refine wpList_load_row rfl 46 (.tmp 7) rfl bG rfl 46 _ (0, 0) _ hgrow Tryz.underlying46 rfl HKR.out ?_)
                      | (refine Go.Great.wpList_buildSliceTo rfl 22 46 1 _ rfl x4.heap.size rfl (some 144) rfl Tryz.underlying22 (gI.vals hg).toArray (by kernel_rfl) ?_))
                    clear hgrow
                    refine (HF5.out.addOne HG5.out.2.2 (by decide)).mono ?_
                    rintro y x5 ⟨rfl, M5, mo5, v5, P5, hto, hws, hst⟩
                    obtain ⟨bN, hN, hM5⟩ := (hto.yes (good_ok HLFT.out)).one
                    subst hM5
                    have HF6 := Lib.hid hws
                    have HHT := Lib.hid (good_height HLFT.out bN hN)
                    obtain ⟨X, hX⟩ : ∃ X, X = maxH M3 (tC nBase).nms := ⟨_, rfl⟩
                    have HMX := Lib.hid (maxH_le (L := M3) (l := (tC nBase).nms) (M := 4096) (by omega) (fun p hp => by have := (HF5.out.env.env.hgt p hp).2; have := HF5.out.env.env.few; omega))
                    rw [← hX] at HHT HMX
                    rw [good_ok HLFT.out]
                    clear hto hws hst HG5 hX HF5
                    have hw1 : wrap64 (1 + X) = 1 + X := IntWalk.wrap64_in _ (by have := HMX.out; omega)
                    have hw2 : IntKind.i64.wrap (1 + X) = 1 + X := IntWalk.i64_in _ (by have := HMX.out; omega)
                    have HA1 := Lib.hid (fun (W : World) (hW : Below x5.heap.size x5 W) => (show Calls Tryz.prog 30 #[.pointer (some ⟨e, 0, none⟩), (tC nGood).val zHd] W (fun y w' => y = .returned (.int .i64 (1 + X)) ∧ Below W.heap.size W w') from HHT.out.1 ▸ height_any (HF6.out.below hW).env.env (tC nGood) zHd (C_firm (P := fun _ => False) nGood (by decide)).here (by kernel_rfl)))
                    have HA2 := Lib.hid (fun (W : World) (hW : Below x5.heap.size x5 W) => (show Calls Tryz.prog 30 #[.pointer (some ⟨e, 0, none⟩), (tC nBase).val zHd] W (fun y w' => y = .returned (.int .i64 X) ∧ Below W.heap.size W w') from HHT.out.2 ▸ height_any (HF6.out.below hW).env.env (tC nBase) zHd (C_firm (P := fun _ => False) nBase (by decide)).here (by kernel_rfl)))
                    go_wp2_with fail
                    refine (CE_any _ _).mono ?_
                    rintro y x6 ⟨rfl, k6⟩
                    have HK6 := Lib.hid k6
                    clear k6
                    go_wp2_with fail
                    refine (HA1.out x6 HK6.out).mono ?_
                    rintro y x7 ⟨rfl, k7⟩
                    have HK7 := Lib.hid (Trm.go HK6.out k7)
                    clear k7
                    go_wp2_with fail
                    refine (CE_any _ _).mono ?_
                    rintro y x8 ⟨rfl, k8⟩
                    have HK8 := Lib.hid (Trm.go HK7.out k8)
                    clear k8
                    go_wp2_with fail
                    refine (HA2.out x8 HK8.out).mono ?_
                    rintro y x9 ⟨rfl, k9⟩
                    have HK9 := Lib.hid (Trm.go HK8.out k9)
                    clear k9
                    go_wp2_with fail
                    refine (works7_any _).mono ?_
                    rintro y wz ⟨rfl, bz⟩
                    have HBZ := Lib.hid (Trm.go (Trm.go HF6.out.bel HK9.out) bz)
                    clear bz
                    go_wp2_with fail
                    go_ret
                    exact ⟨rfl, HBZ.out⟩
                  · have e0 : (R == 0) = false := by simp [h0]
                    clear h0
                    by_cases h1 : R = 1
                    · have e1 : (R == 1) = true := by simp [h1]
                      clear h1
                      have c1 : W0.cell? ⟨b14, 1, none⟩ = some (.string ⟨#[103, 111, 111, 100, 39]⟩) := HCX.out 1
                      have f1 := HCF.out 1
                      go_upto_region 46 with fail
                      clear c1 f1
                      obtain ⟨Wf, hWf⟩ : ∃ W, W = W0.setCell ⟨b14, 1, none⟩ (.string ⟨#[110, 111, 32, 110, 97, 109, 101]⟩) := ⟨_, rfl⟩
                      have hbelF : Below v2.heap.size v2 Wf := by rw [hWf]; exact HBW.out.trans ((set_ranE (P := fun q => q = b14) W0 b14 1 _ rfl).below (fun q hq => by rw [hq]; exact HV14.out) HBW.out.size)
                      have HF1 := Lib.hid (H11.out.below hbelF)
                      have HG1 := Lib.hid (HG11.out.step (Step.of_below hbelF))
                      have HFB := Lib.hid (show FirmI P' Wf gI hg from HG1.out.2.2)
                      have HH1 := Lib.hid (show HoldI P' Wf b14 ({ gI with name := nNo } : Inf) hg from ⟨by rw [hWf]; exact (HX12.out.put 1 _ rfl : IBox _ b14 ({ gI with name := nNo } : Inf) hg), fun q => by have := HNP.out b14 q; omega, ⟨⟨by decide, by decide, by decide, by decide⟩, HFB.out.ty, HFB.out.va, HFB.out.rules⟩⟩)
                      skip
                      rw [← hWf]
                      clear hWf hbelF HX12 HCX HCF
                      have HW1 : Hid (addA M [({ gI with name := nNo } : Inf)] = 5) := Lib.hid (bad_want HLFT.out (({ gI with name := nNo } : Inf), 5) (by simp [bads]))
                      have HW2 : Hid (addA M [gI, ({ gI with name := nNo } : Inf)] ≠ 0) := Lib.hid (bad_two HLFT.out (({ gI with name := nNo } : Inf), 5) (by simp [bads]))
                      have HLS := Lib.hid (fun (W : World) (P : Nat → Prop) (mo : Option Nat) (v : Value) (hW : WS w W P e M mo v) => (show Calls Tryz.prog 17 #[.pointer (some ⟨e, 0, none⟩)] W (fun y w' => ∃ a c, y = .returned (.slice a M.length c) ∧ Below W.heap.size W w') from (list_any hW.env.env).mono (fun y w' h => by
                        obtain ⟨v', rfl, hr, hb⟩ := h
                        obtain ⟨a, c, rfl⟩ := row_slice hr
                        exact ⟨a, c, rfl, hb⟩)))
                      go_wp2_with fail
                      refine (HLS.out _ _ _ _ HF1.out).mono ?_
                      rintro y x1 ⟨a1, c1, rfl, k1⟩
                      have HF2 := Lib.hid (HF1.out.below k1)
                      have HH2 := Lib.hid (HH1.out.step (Step.of_below k1))
                      have HG2 := Lib.hid (HG1.out.step (Step.of_below k1))
                      clear k1 HF1 HH1 HG1
                      have hrow := HH2.out.1
                      go_wp2_with (first
                        | (refine wpList_load_row rfl 46 (.tmp 14) rfl b14 rfl 46 _ (0, 0) _ hrow Tryz.underlying46 rfl HKR.out ?_)
                        | (refine Go.Great.wpList_buildSliceTo rfl 22 46 1 _ rfl x1.heap.size rfl (some 123) rfl Tryz.underlying22 (({ gI with name := nNo } : Inf).vals hg).toArray (by kernel_rfl) ?_))
                      clear hrow
                      refine (HF2.out.addOne HH2.out.2.2 (by decide)).mono ?_
                      rintro y x2 ⟨rfl, M2, mo2, v2', P2, hto, hws, hst⟩
                      have hM2 : M2 = M := hto.no (by rw [HW1.out]; decide)
                      subst hM2
                      have HF3 := Lib.hid hws
                      have HH3 := Lib.hid (HH2.out.step hst)
                      have HG3 := Lib.hid (HG2.out.step hst)
                      rw [HW1.out]
                      clear hto hws hst HF2 HH2 HG2
                      have hrow := HH3.out.1
                      have hgrow := HG3.out.1
                      go_wp2_with (first
                        | (refine wpList_load_rowG rfl 46 (.tmp 7) rfl (some 129) rfl bG rfl 46 _ (0, 0) _ hgrow Tryz.underlying46 rfl HKR.out ?_)
                        | (refine wpList_load_rowG rfl 46 (.tmp 14) rfl (some 130) rfl b14 rfl 46 _ (0, 0) _ hrow Tryz.underlying46 rfl HKR.out ?_)
                        | (refine wpList_bsliceG rfl 22 46 2 _ rfl (some 131) rfl ((gI.vals hg) ++ (({ gI with name := nNo } : Inf).vals hg)).toArray Tryz.underlying22 (by kernel_rfl) ?_))
                      clear hrow hgrow
                      refine (HF3.out.addTwo HG3.out.2.2 HH3.out.2.2 (by decide) (by decide)).mono ?_
                      rintro y x3 ⟨rfl, M3, mo3, v3', P3, hto, hws, hst⟩
                      have hM3 : M3 = M2 := hto.no HW2.out
                      subst hM3
                      have HF4 := Lib.hid hws
                      have HG4 := Lib.hid (HG3.out.step hst)
                      obtain ⟨zc2, hzc2⟩ : ∃ q, q = addA M3 [gI, ({ gI with name := nNo } : Inf)] := ⟨_, rfl⟩
                      have hz1 : (zc2 == 0) = false := by have := HW2.out; rw [← hzc2] at this; simpa using this
                      rw [← hzc2]
                      clear hto hws hst HF3 HH3 HG3 hzc2
                      go_wp2_with fail
                      refine (HLS.out _ _ _ _ HF4.out).mono ?_
                      rintro y x4 ⟨a4, c4, rfl, k4⟩
                      have HF5 := Lib.hid (HF4.out.below k4)
                      have HG5 := Lib.hid (HG4.out.step (Step.of_below k4))
                      clear k4 HF4 HG4
                      go_upto_region 49 with fail
                      have hgrow := HG5.out.1
                      go_wp2_with (first
                        | (refine wpList_load_row rfl 46 (.tmp 7) rfl bG rfl 46 _ (0, 0) _ hgrow Tryz.underlying46 rfl HKR.out ?_)
                        | (refine Go.Great.wpList_buildSliceTo rfl 22 46 1 _ rfl x4.heap.size rfl (some 144) rfl Tryz.underlying22 (gI.vals hg).toArray (by kernel_rfl) ?_))
                      clear hgrow
                      refine (HF5.out.addOne HG5.out.2.2 (by decide)).mono ?_
                      rintro y x5 ⟨rfl, M5, mo5, v5, P5, hto, hws, hst⟩
                      obtain ⟨bN, hN, hM5⟩ := (hto.yes (good_ok HLFT.out)).one
                      subst hM5
                      have HF6 := Lib.hid hws
                      have HHT := Lib.hid (good_height HLFT.out bN hN)
                      obtain ⟨X, hX⟩ : ∃ X, X = maxH M3 (tC nBase).nms := ⟨_, rfl⟩
                      have HMX := Lib.hid (maxH_le (L := M3) (l := (tC nBase).nms) (M := 4096) (by omega) (fun p hp => by have := (HF5.out.env.env.hgt p hp).2; have := HF5.out.env.env.few; omega))
                      rw [← hX] at HHT HMX
                      rw [good_ok HLFT.out]
                      clear hto hws hst HG5 hX HF5
                      have hw1 : wrap64 (1 + X) = 1 + X := IntWalk.wrap64_in _ (by have := HMX.out; omega)
                      have hw2 : IntKind.i64.wrap (1 + X) = 1 + X := IntWalk.i64_in _ (by have := HMX.out; omega)
                      have HA1 := Lib.hid (fun (W : World) (hW : Below x5.heap.size x5 W) => (show Calls Tryz.prog 30 #[.pointer (some ⟨e, 0, none⟩), (tC nGood).val zHd] W (fun y w' => y = .returned (.int .i64 (1 + X)) ∧ Below W.heap.size W w') from HHT.out.1 ▸ height_any (HF6.out.below hW).env.env (tC nGood) zHd (C_firm (P := fun _ => False) nGood (by decide)).here (by kernel_rfl)))
                      have HA2 := Lib.hid (fun (W : World) (hW : Below x5.heap.size x5 W) => (show Calls Tryz.prog 30 #[.pointer (some ⟨e, 0, none⟩), (tC nBase).val zHd] W (fun y w' => y = .returned (.int .i64 X) ∧ Below W.heap.size W w') from HHT.out.2 ▸ height_any (HF6.out.below hW).env.env (tC nBase) zHd (C_firm (P := fun _ => False) nBase (by decide)).here (by kernel_rfl)))
                      go_wp2_with fail
                      refine (CE_any _ _).mono ?_
                      rintro y x6 ⟨rfl, k6⟩
                      have HK6 := Lib.hid k6
                      clear k6
                      go_wp2_with fail
                      refine (HA1.out x6 HK6.out).mono ?_
                      rintro y x7 ⟨rfl, k7⟩
                      have HK7 := Lib.hid (Trm.go HK6.out k7)
                      clear k7
                      go_wp2_with fail
                      refine (CE_any _ _).mono ?_
                      rintro y x8 ⟨rfl, k8⟩
                      have HK8 := Lib.hid (Trm.go HK7.out k8)
                      clear k8
                      go_wp2_with fail
                      refine (HA2.out x8 HK8.out).mono ?_
                      rintro y x9 ⟨rfl, k9⟩
                      have HK9 := Lib.hid (Trm.go HK8.out k9)
                      clear k9
                      go_wp2_with fail
                      refine (works7_any _).mono ?_
                      rintro y wz ⟨rfl, bz⟩
                      have HBZ := Lib.hid (Trm.go (Trm.go HF6.out.bel HK9.out) bz)
                      clear bz
                      go_wp2_with fail
                      go_ret
                      exact ⟨rfl, HBZ.out⟩
                    · have e1 : (R == 1) = false := by simp [h1]
                      clear h1
                      by_cases h2 : R = 2
                      · have e2 : (R == 2) = true := by simp [h2]
                        clear h2
                        have c0 : W0.cell? ⟨b14, 0, none⟩ = some (.int .u8 2) := HCX.out 0
                        have f0 := HCF.out 0
                        go_upto_region 46 with fail
                        clear c0 f0
                        obtain ⟨Wf, hWf⟩ : ∃ W, W = W0.setCell ⟨b14, 0, none⟩ (.int .u8 7) := ⟨_, rfl⟩
                        have hbelF : Below v2.heap.size v2 Wf := by rw [hWf]; exact HBW.out.trans ((set_ranE (P := fun q => q = b14) W0 b14 0 _ rfl).below (fun q hq => by rw [hq]; exact HV14.out) HBW.out.size)
                        have HF1 := Lib.hid (H11.out.below hbelF)
                        have HG1 := Lib.hid (HG11.out.step (Step.of_below hbelF))
                        have HFB := Lib.hid (show FirmI P' Wf gI hg from HG1.out.2.2)
                        have HH1 := Lib.hid (show HoldI P' Wf b14 ({ gI with kind := 7 } : Inf) hg from ⟨by rw [hWf]; exact (HX12.out.put 0 _ rfl : IBox _ b14 ({ gI with kind := 7 } : Inf) hg), fun q => by have := HNP.out b14 q; omega, ⟨⟨by decide, by decide, by decide, by decide⟩, HFB.out.ty, HFB.out.va, HFB.out.rules⟩⟩)
                        skip
                        rw [← hWf]
                        clear hWf hbelF HX12 HCX HCF
                        have HW1 : Hid (addA M [({ gI with kind := 7 } : Inf)] = 1) := Lib.hid (bad_want HLFT.out (({ gI with kind := 7 } : Inf), 1) (by simp [bads]))
                        have HW2 : Hid (addA M [gI, ({ gI with kind := 7 } : Inf)] ≠ 0) := Lib.hid (bad_two HLFT.out (({ gI with kind := 7 } : Inf), 1) (by simp [bads]))
                        have HLS := Lib.hid (fun (W : World) (P : Nat → Prop) (mo : Option Nat) (v : Value) (hW : WS w W P e M mo v) => (show Calls Tryz.prog 17 #[.pointer (some ⟨e, 0, none⟩)] W (fun y w' => ∃ a c, y = .returned (.slice a M.length c) ∧ Below W.heap.size W w') from (list_any hW.env.env).mono (fun y w' h => by
                          obtain ⟨v', rfl, hr, hb⟩ := h
                          obtain ⟨a, c, rfl⟩ := row_slice hr
                          exact ⟨a, c, rfl, hb⟩)))
                        go_wp2_with fail
                        refine (HLS.out _ _ _ _ HF1.out).mono ?_
                        rintro y x1 ⟨a1, c1, rfl, k1⟩
                        have HF2 := Lib.hid (HF1.out.below k1)
                        have HH2 := Lib.hid (HH1.out.step (Step.of_below k1))
                        have HG2 := Lib.hid (HG1.out.step (Step.of_below k1))
                        clear k1 HF1 HH1 HG1
                        have hrow := HH2.out.1
                        go_wp2_with (first
                          | (refine wpList_load_row rfl 46 (.tmp 14) rfl b14 rfl 46 _ (0, 0) _ hrow Tryz.underlying46 rfl HKR.out ?_)
                          | (refine Go.Great.wpList_buildSliceTo rfl 22 46 1 _ rfl x1.heap.size rfl (some 123) rfl Tryz.underlying22 (({ gI with kind := 7 } : Inf).vals hg).toArray (by kernel_rfl) ?_))
                        clear hrow
                        refine (HF2.out.addOne HH2.out.2.2 (by decide)).mono ?_
                        rintro y x2 ⟨rfl, M2, mo2, v2', P2, hto, hws, hst⟩
                        have hM2 : M2 = M := hto.no (by rw [HW1.out]; decide)
                        subst hM2
                        have HF3 := Lib.hid hws
                        have HH3 := Lib.hid (HH2.out.step hst)
                        have HG3 := Lib.hid (HG2.out.step hst)
                        rw [HW1.out]
                        clear hto hws hst HF2 HH2 HG2
                        have hrow := HH3.out.1
                        have hgrow := HG3.out.1
                        go_wp2_with (first
                          | (refine wpList_load_rowG rfl 46 (.tmp 7) rfl (some 129) rfl bG rfl 46 _ (0, 0) _ hgrow Tryz.underlying46 rfl HKR.out ?_)
                          | (refine wpList_load_rowG rfl 46 (.tmp 14) rfl (some 130) rfl b14 rfl 46 _ (0, 0) _ hrow Tryz.underlying46 rfl HKR.out ?_)
                          | (refine wpList_bsliceG rfl 22 46 2 _ rfl (some 131) rfl ((gI.vals hg) ++ (({ gI with kind := 7 } : Inf).vals hg)).toArray Tryz.underlying22 (by kernel_rfl) ?_))
                        clear hrow hgrow
                        refine (HF3.out.addTwo HG3.out.2.2 HH3.out.2.2 (by decide) (by decide)).mono ?_
                        rintro y x3 ⟨rfl, M3, mo3, v3', P3, hto, hws, hst⟩
                        have hM3 : M3 = M2 := hto.no HW2.out
                        subst hM3
                        have HF4 := Lib.hid hws
                        have HG4 := Lib.hid (HG3.out.step hst)
                        obtain ⟨zc2, hzc2⟩ : ∃ q, q = addA M3 [gI, ({ gI with kind := 7 } : Inf)] := ⟨_, rfl⟩
                        have hz1 : (zc2 == 0) = false := by have := HW2.out; rw [← hzc2] at this; simpa using this
                        rw [← hzc2]
                        clear hto hws hst HF3 HH3 HG3 hzc2
                        go_wp2_with fail
                        refine (HLS.out _ _ _ _ HF4.out).mono ?_
                        rintro y x4 ⟨a4, c4, rfl, k4⟩
                        have HF5 := Lib.hid (HF4.out.below k4)
                        have HG5 := Lib.hid (HG4.out.step (Step.of_below k4))
                        clear k4 HF4 HG4
                        go_upto_region 49 with fail
                        have hgrow := HG5.out.1
                        go_wp2_with (first
                          | (refine wpList_load_row rfl 46 (.tmp 7) rfl bG rfl 46 _ (0, 0) _ hgrow Tryz.underlying46 rfl HKR.out ?_)
                          | (refine Go.Great.wpList_buildSliceTo rfl 22 46 1 _ rfl x4.heap.size rfl (some 144) rfl Tryz.underlying22 (gI.vals hg).toArray (by kernel_rfl) ?_))
                        clear hgrow
                        refine (HF5.out.addOne HG5.out.2.2 (by decide)).mono ?_
                        rintro y x5 ⟨rfl, M5, mo5, v5, P5, hto, hws, hst⟩
                        obtain ⟨bN, hN, hM5⟩ := (hto.yes (good_ok HLFT.out)).one
                        subst hM5
                        have HF6 := Lib.hid hws
                        have HHT := Lib.hid (good_height HLFT.out bN hN)
                        obtain ⟨X, hX⟩ : ∃ X, X = maxH M3 (tC nBase).nms := ⟨_, rfl⟩
                        have HMX := Lib.hid (maxH_le (L := M3) (l := (tC nBase).nms) (M := 4096) (by omega) (fun p hp => by have := (HF5.out.env.env.hgt p hp).2; have := HF5.out.env.env.few; omega))
                        rw [← hX] at HHT HMX
                        rw [good_ok HLFT.out]
                        clear hto hws hst HG5 hX HF5
                        have hw1 : wrap64 (1 + X) = 1 + X := IntWalk.wrap64_in _ (by have := HMX.out; omega)
                        have hw2 : IntKind.i64.wrap (1 + X) = 1 + X := IntWalk.i64_in _ (by have := HMX.out; omega)
                        have HA1 := Lib.hid (fun (W : World) (hW : Below x5.heap.size x5 W) => (show Calls Tryz.prog 30 #[.pointer (some ⟨e, 0, none⟩), (tC nGood).val zHd] W (fun y w' => y = .returned (.int .i64 (1 + X)) ∧ Below W.heap.size W w') from HHT.out.1 ▸ height_any (HF6.out.below hW).env.env (tC nGood) zHd (C_firm (P := fun _ => False) nGood (by decide)).here (by kernel_rfl)))
                        have HA2 := Lib.hid (fun (W : World) (hW : Below x5.heap.size x5 W) => (show Calls Tryz.prog 30 #[.pointer (some ⟨e, 0, none⟩), (tC nBase).val zHd] W (fun y w' => y = .returned (.int .i64 X) ∧ Below W.heap.size W w') from HHT.out.2 ▸ height_any (HF6.out.below hW).env.env (tC nBase) zHd (C_firm (P := fun _ => False) nBase (by decide)).here (by kernel_rfl)))
                        go_wp2_with fail
                        refine (CE_any _ _).mono ?_
                        rintro y x6 ⟨rfl, k6⟩
                        have HK6 := Lib.hid k6
                        clear k6
                        go_wp2_with fail
                        refine (HA1.out x6 HK6.out).mono ?_
                        rintro y x7 ⟨rfl, k7⟩
                        have HK7 := Lib.hid (Trm.go HK6.out k7)
                        clear k7
                        go_wp2_with fail
                        refine (CE_any _ _).mono ?_
                        rintro y x8 ⟨rfl, k8⟩
                        have HK8 := Lib.hid (Trm.go HK7.out k8)
                        clear k8
                        go_wp2_with fail
                        refine (HA2.out x8 HK8.out).mono ?_
                        rintro y x9 ⟨rfl, k9⟩
                        have HK9 := Lib.hid (Trm.go HK8.out k9)
                        clear k9
                        go_wp2_with fail
                        refine (works7_any _).mono ?_
                        rintro y wz ⟨rfl, bz⟩
                        have HBZ := Lib.hid (Trm.go (Trm.go HF6.out.bel HK9.out) bz)
                        clear bz
                        go_wp2_with fail
                        go_ret
                        exact ⟨rfl, HBZ.out⟩
                      · have e2 : (R == 2) = false := by simp [h2]
                        clear h2
                        by_cases h3 : R = 3
                        · have e3 : (R == 3) = true := by simp [h3]
                          clear h3
                          have c19 : W0.cell? ⟨b14, 19, none⟩ = some (.int .i64 0) := HCX.out 19
                          have f19 := HCF.out 19
                          go_upto_region 46 with fail
                          clear c19 f19
                          obtain ⟨Wf, hWf⟩ : ∃ W, W = W0.setCell ⟨b14, 19, none⟩ (.int .i64 1001) := ⟨_, rfl⟩
                          have hbelF : Below v2.heap.size v2 Wf := by rw [hWf]; exact HBW.out.trans ((set_ranE (P := fun q => q = b14) W0 b14 19 _ rfl).below (fun q hq => by rw [hq]; exact HV14.out) HBW.out.size)
                          have HF1 := Lib.hid (H11.out.below hbelF)
                          have HG1 := Lib.hid (HG11.out.step (Step.of_below hbelF))
                          have HFB := Lib.hid (show FirmI P' Wf gI hg from HG1.out.2.2)
                          have HH1 := Lib.hid (show HoldI P' Wf b14 ({ gI with fields := 1001 } : Inf) hg from ⟨by rw [hWf]; exact (HX12.out.put 19 _ rfl : IBox _ b14 ({ gI with fields := 1001 } : Inf) hg), fun q => by have := HNP.out b14 q; omega, ⟨⟨by decide, by decide, by decide, by decide⟩, HFB.out.ty, HFB.out.va, HFB.out.rules⟩⟩)
                          skip
                          rw [← hWf]
                          clear hWf hbelF HX12 HCX HCF
                          have HW1 : Hid (addA M [({ gI with fields := 1001 } : Inf)] = 1) := Lib.hid (bad_want HLFT.out (({ gI with fields := 1001 } : Inf), 1) (by simp [bads]))
                          have HW2 : Hid (addA M [gI, ({ gI with fields := 1001 } : Inf)] ≠ 0) := Lib.hid (bad_two HLFT.out (({ gI with fields := 1001 } : Inf), 1) (by simp [bads]))
                          have HLS := Lib.hid (fun (W : World) (P : Nat → Prop) (mo : Option Nat) (v : Value) (hW : WS w W P e M mo v) => (show Calls Tryz.prog 17 #[.pointer (some ⟨e, 0, none⟩)] W (fun y w' => ∃ a c, y = .returned (.slice a M.length c) ∧ Below W.heap.size W w') from (list_any hW.env.env).mono (fun y w' h => by
                            obtain ⟨v', rfl, hr, hb⟩ := h
                            obtain ⟨a, c, rfl⟩ := row_slice hr
                            exact ⟨a, c, rfl, hb⟩)))
                          go_wp2_with fail
                          refine (HLS.out _ _ _ _ HF1.out).mono ?_
                          rintro y x1 ⟨a1, c1, rfl, k1⟩
                          have HF2 := Lib.hid (HF1.out.below k1)
                          have HH2 := Lib.hid (HH1.out.step (Step.of_below k1))
                          have HG2 := Lib.hid (HG1.out.step (Step.of_below k1))
                          clear k1 HF1 HH1 HG1
                          have hrow := HH2.out.1
                          go_wp2_with (first
                            | (refine wpList_load_row rfl 46 (.tmp 14) rfl b14 rfl 46 _ (0, 0) _ hrow Tryz.underlying46 rfl HKR.out ?_)
                            | (refine Go.Great.wpList_buildSliceTo rfl 22 46 1 _ rfl x1.heap.size rfl (some 123) rfl Tryz.underlying22 (({ gI with fields := 1001 } : Inf).vals hg).toArray (by kernel_rfl) ?_))
                          clear hrow
                          refine (HF2.out.addOne HH2.out.2.2 (by decide)).mono ?_
                          rintro y x2 ⟨rfl, M2, mo2, v2', P2, hto, hws, hst⟩
                          have hM2 : M2 = M := hto.no (by rw [HW1.out]; decide)
                          subst hM2
                          have HF3 := Lib.hid hws
                          have HH3 := Lib.hid (HH2.out.step hst)
                          have HG3 := Lib.hid (HG2.out.step hst)
                          rw [HW1.out]
                          clear hto hws hst HF2 HH2 HG2
                          have hrow := HH3.out.1
                          have hgrow := HG3.out.1
                          go_wp2_with (first
                            | (refine wpList_load_rowG rfl 46 (.tmp 7) rfl (some 129) rfl bG rfl 46 _ (0, 0) _ hgrow Tryz.underlying46 rfl HKR.out ?_)
                            | (refine wpList_load_rowG rfl 46 (.tmp 14) rfl (some 130) rfl b14 rfl 46 _ (0, 0) _ hrow Tryz.underlying46 rfl HKR.out ?_)
                            | (refine wpList_bsliceG rfl 22 46 2 _ rfl (some 131) rfl ((gI.vals hg) ++ (({ gI with fields := 1001 } : Inf).vals hg)).toArray Tryz.underlying22 (by kernel_rfl) ?_))
                          clear hrow hgrow
                          refine (HF3.out.addTwo HG3.out.2.2 HH3.out.2.2 (by decide) (by decide)).mono ?_
                          rintro y x3 ⟨rfl, M3, mo3, v3', P3, hto, hws, hst⟩
                          have hM3 : M3 = M2 := hto.no HW2.out
                          subst hM3
                          have HF4 := Lib.hid hws
                          have HG4 := Lib.hid (HG3.out.step hst)
                          obtain ⟨zc2, hzc2⟩ : ∃ q, q = addA M3 [gI, ({ gI with fields := 1001 } : Inf)] := ⟨_, rfl⟩
                          have hz1 : (zc2 == 0) = false := by have := HW2.out; rw [← hzc2] at this; simpa using this
                          rw [← hzc2]
                          clear hto hws hst HF3 HH3 HG3 hzc2
                          go_wp2_with fail
                          refine (HLS.out _ _ _ _ HF4.out).mono ?_
                          rintro y x4 ⟨a4, c4, rfl, k4⟩
                          have HF5 := Lib.hid (HF4.out.below k4)
                          have HG5 := Lib.hid (HG4.out.step (Step.of_below k4))
                          clear k4 HF4 HG4
                          go_upto_region 49 with fail
                          have hgrow := HG5.out.1
                          go_wp2_with (first
                            | (refine wpList_load_row rfl 46 (.tmp 7) rfl bG rfl 46 _ (0, 0) _ hgrow Tryz.underlying46 rfl HKR.out ?_)
                            | (refine Go.Great.wpList_buildSliceTo rfl 22 46 1 _ rfl x4.heap.size rfl (some 144) rfl Tryz.underlying22 (gI.vals hg).toArray (by kernel_rfl) ?_))
                          clear hgrow
                          refine (HF5.out.addOne HG5.out.2.2 (by decide)).mono ?_
                          rintro y x5 ⟨rfl, M5, mo5, v5, P5, hto, hws, hst⟩
                          obtain ⟨bN, hN, hM5⟩ := (hto.yes (good_ok HLFT.out)).one
                          subst hM5
                          have HF6 := Lib.hid hws
                          have HHT := Lib.hid (good_height HLFT.out bN hN)
                          obtain ⟨X, hX⟩ : ∃ X, X = maxH M3 (tC nBase).nms := ⟨_, rfl⟩
                          have HMX := Lib.hid (maxH_le (L := M3) (l := (tC nBase).nms) (M := 4096) (by omega) (fun p hp => by have := (HF5.out.env.env.hgt p hp).2; have := HF5.out.env.env.few; omega))
                          rw [← hX] at HHT HMX
                          rw [good_ok HLFT.out]
                          clear hto hws hst HG5 hX HF5
                          have hw1 : wrap64 (1 + X) = 1 + X := IntWalk.wrap64_in _ (by have := HMX.out; omega)
                          have hw2 : IntKind.i64.wrap (1 + X) = 1 + X := IntWalk.i64_in _ (by have := HMX.out; omega)
                          have HA1 := Lib.hid (fun (W : World) (hW : Below x5.heap.size x5 W) => (show Calls Tryz.prog 30 #[.pointer (some ⟨e, 0, none⟩), (tC nGood).val zHd] W (fun y w' => y = .returned (.int .i64 (1 + X)) ∧ Below W.heap.size W w') from HHT.out.1 ▸ height_any (HF6.out.below hW).env.env (tC nGood) zHd (C_firm (P := fun _ => False) nGood (by decide)).here (by kernel_rfl)))
                          have HA2 := Lib.hid (fun (W : World) (hW : Below x5.heap.size x5 W) => (show Calls Tryz.prog 30 #[.pointer (some ⟨e, 0, none⟩), (tC nBase).val zHd] W (fun y w' => y = .returned (.int .i64 X) ∧ Below W.heap.size W w') from HHT.out.2 ▸ height_any (HF6.out.below hW).env.env (tC nBase) zHd (C_firm (P := fun _ => False) nBase (by decide)).here (by kernel_rfl)))
                          go_wp2_with fail
                          refine (CE_any _ _).mono ?_
                          rintro y x6 ⟨rfl, k6⟩
                          have HK6 := Lib.hid k6
                          clear k6
                          go_wp2_with fail
                          refine (HA1.out x6 HK6.out).mono ?_
                          rintro y x7 ⟨rfl, k7⟩
                          have HK7 := Lib.hid (Trm.go HK6.out k7)
                          clear k7
                          go_wp2_with fail
                          refine (CE_any _ _).mono ?_
                          rintro y x8 ⟨rfl, k8⟩
                          have HK8 := Lib.hid (Trm.go HK7.out k8)
                          clear k8
                          go_wp2_with fail
                          refine (HA2.out x8 HK8.out).mono ?_
                          rintro y x9 ⟨rfl, k9⟩
                          have HK9 := Lib.hid (Trm.go HK8.out k9)
                          clear k9
                          go_wp2_with fail
                          refine (works7_any _).mono ?_
                          rintro y wz ⟨rfl, bz⟩
                          have HBZ := Lib.hid (Trm.go (Trm.go HF6.out.bel HK9.out) bz)
                          clear bz
                          go_wp2_with fail
                          go_ret
                          exact ⟨rfl, HBZ.out⟩
                        · have e3 : (R == 3) = false := by simp [h3]
                          clear h3
                          by_cases h4 : R = 4
                          · have e4 : (R == 4) = true := by simp [h4]
                            clear h4
                            have c2 : W0.cell? ⟨b14, 2, none⟩ = some (.int .i64 0) := HCX.out 2
                            have f2 := HCF.out 2
                            go_upto_region 46 with fail
                            clear c2 f2
                            obtain ⟨Wf, hWf⟩ : ∃ W, W = W0.setCell ⟨b14, 2, none⟩ (.int .i64 5) := ⟨_, rfl⟩
                            have hbelF : Below v2.heap.size v2 Wf := by rw [hWf]; exact HBW.out.trans ((set_ranE (P := fun q => q = b14) W0 b14 2 _ rfl).below (fun q hq => by rw [hq]; exact HV14.out) HBW.out.size)
                            have HF1 := Lib.hid (H11.out.below hbelF)
                            have HG1 := Lib.hid (HG11.out.step (Step.of_below hbelF))
                            have HFB := Lib.hid (show FirmI P' Wf gI hg from HG1.out.2.2)
                            have HH1 := Lib.hid (show HoldI P' Wf b14 ({ gI with params := 5 } : Inf) hg from ⟨by rw [hWf]; exact (HX12.out.put 2 _ rfl : IBox _ b14 ({ gI with params := 5 } : Inf) hg), fun q => by have := HNP.out b14 q; omega, ⟨⟨by decide, by decide, by decide, by decide⟩, HFB.out.ty, HFB.out.va, HFB.out.rules⟩⟩)
                            skip
                            rw [← hWf]
                            clear hWf hbelF HX12 HCX HCF
                            have HW1 : Hid (addA M [({ gI with params := 5 } : Inf)] = 8) := Lib.hid (bad_want HLFT.out (({ gI with params := 5 } : Inf), 8) (by simp [bads]))
                            have HW2 : Hid (addA M [gI, ({ gI with params := 5 } : Inf)] ≠ 0) := Lib.hid (bad_two HLFT.out (({ gI with params := 5 } : Inf), 8) (by simp [bads]))
                            have HLS := Lib.hid (fun (W : World) (P : Nat → Prop) (mo : Option Nat) (v : Value) (hW : WS w W P e M mo v) => (show Calls Tryz.prog 17 #[.pointer (some ⟨e, 0, none⟩)] W (fun y w' => ∃ a c, y = .returned (.slice a M.length c) ∧ Below W.heap.size W w') from (list_any hW.env.env).mono (fun y w' h => by
                              obtain ⟨v', rfl, hr, hb⟩ := h
                              obtain ⟨a, c, rfl⟩ := row_slice hr
                              exact ⟨a, c, rfl, hb⟩)))
                            go_wp2_with fail
                            refine (HLS.out _ _ _ _ HF1.out).mono ?_
                            rintro y x1 ⟨a1, c1, rfl, k1⟩
                            have HF2 := Lib.hid (HF1.out.below k1)
                            have HH2 := Lib.hid (HH1.out.step (Step.of_below k1))
                            have HG2 := Lib.hid (HG1.out.step (Step.of_below k1))
                            clear k1 HF1 HH1 HG1
                            have hrow := HH2.out.1
                            go_wp2_with (first
                              | (refine wpList_load_row rfl 46 (.tmp 14) rfl b14 rfl 46 _ (0, 0) _ hrow Tryz.underlying46 rfl HKR.out ?_)
                              | (refine Go.Great.wpList_buildSliceTo rfl 22 46 1 _ rfl x1.heap.size rfl (some 123) rfl Tryz.underlying22 (({ gI with params := 5 } : Inf).vals hg).toArray (by kernel_rfl) ?_))
                            clear hrow
                            refine (HF2.out.addOne HH2.out.2.2 (by decide)).mono ?_
                            rintro y x2 ⟨rfl, M2, mo2, v2', P2, hto, hws, hst⟩
                            have hM2 : M2 = M := hto.no (by rw [HW1.out]; decide)
                            subst hM2
                            have HF3 := Lib.hid hws
                            have HH3 := Lib.hid (HH2.out.step hst)
                            have HG3 := Lib.hid (HG2.out.step hst)
                            rw [HW1.out]
                            clear hto hws hst HF2 HH2 HG2
                            have hrow := HH3.out.1
                            have hgrow := HG3.out.1
                            go_wp2_with (first
                              | (refine wpList_load_rowG rfl 46 (.tmp 7) rfl (some 129) rfl bG rfl 46 _ (0, 0) _ hgrow Tryz.underlying46 rfl HKR.out ?_)
                              | (refine wpList_load_rowG rfl 46 (.tmp 14) rfl (some 130) rfl b14 rfl 46 _ (0, 0) _ hrow Tryz.underlying46 rfl HKR.out ?_)
                              | (refine wpList_bsliceG rfl 22 46 2 _ rfl (some 131) rfl ((gI.vals hg) ++ (({ gI with params := 5 } : Inf).vals hg)).toArray Tryz.underlying22 (by kernel_rfl) ?_))
                            clear hrow hgrow
                            refine (HF3.out.addTwo HG3.out.2.2 HH3.out.2.2 (by decide) (by decide)).mono ?_
                            rintro y x3 ⟨rfl, M3, mo3, v3', P3, hto, hws, hst⟩
                            have hM3 : M3 = M2 := hto.no HW2.out
                            subst hM3
                            have HF4 := Lib.hid hws
                            have HG4 := Lib.hid (HG3.out.step hst)
                            obtain ⟨zc2, hzc2⟩ : ∃ q, q = addA M3 [gI, ({ gI with params := 5 } : Inf)] := ⟨_, rfl⟩
                            have hz1 : (zc2 == 0) = false := by have := HW2.out; rw [← hzc2] at this; simpa using this
                            rw [← hzc2]
                            clear hto hws hst HF3 HH3 HG3 hzc2
                            go_wp2_with fail
                            refine (HLS.out _ _ _ _ HF4.out).mono ?_
                            rintro y x4 ⟨a4, c4, rfl, k4⟩
                            have HF5 := Lib.hid (HF4.out.below k4)
                            have HG5 := Lib.hid (HG4.out.step (Step.of_below k4))
                            clear k4 HF4 HG4
                            go_upto_region 49 with fail
                            have hgrow := HG5.out.1
                            go_wp2_with (first
                              | (refine wpList_load_row rfl 46 (.tmp 7) rfl bG rfl 46 _ (0, 0) _ hgrow Tryz.underlying46 rfl HKR.out ?_)
                              | (refine Go.Great.wpList_buildSliceTo rfl 22 46 1 _ rfl x4.heap.size rfl (some 144) rfl Tryz.underlying22 (gI.vals hg).toArray (by kernel_rfl) ?_))
                            clear hgrow
                            refine (HF5.out.addOne HG5.out.2.2 (by decide)).mono ?_
                            rintro y x5 ⟨rfl, M5, mo5, v5, P5, hto, hws, hst⟩
                            obtain ⟨bN, hN, hM5⟩ := (hto.yes (good_ok HLFT.out)).one
                            subst hM5
                            have HF6 := Lib.hid hws
                            have HHT := Lib.hid (good_height HLFT.out bN hN)
                            obtain ⟨X, hX⟩ : ∃ X, X = maxH M3 (tC nBase).nms := ⟨_, rfl⟩
                            have HMX := Lib.hid (maxH_le (L := M3) (l := (tC nBase).nms) (M := 4096) (by omega) (fun p hp => by have := (HF5.out.env.env.hgt p hp).2; have := HF5.out.env.env.few; omega))
                            rw [← hX] at HHT HMX
                            rw [good_ok HLFT.out]
                            clear hto hws hst HG5 hX HF5
                            have hw1 : wrap64 (1 + X) = 1 + X := IntWalk.wrap64_in _ (by have := HMX.out; omega)
                            have hw2 : IntKind.i64.wrap (1 + X) = 1 + X := IntWalk.i64_in _ (by have := HMX.out; omega)
                            have HA1 := Lib.hid (fun (W : World) (hW : Below x5.heap.size x5 W) => (show Calls Tryz.prog 30 #[.pointer (some ⟨e, 0, none⟩), (tC nGood).val zHd] W (fun y w' => y = .returned (.int .i64 (1 + X)) ∧ Below W.heap.size W w') from HHT.out.1 ▸ height_any (HF6.out.below hW).env.env (tC nGood) zHd (C_firm (P := fun _ => False) nGood (by decide)).here (by kernel_rfl)))
                            have HA2 := Lib.hid (fun (W : World) (hW : Below x5.heap.size x5 W) => (show Calls Tryz.prog 30 #[.pointer (some ⟨e, 0, none⟩), (tC nBase).val zHd] W (fun y w' => y = .returned (.int .i64 X) ∧ Below W.heap.size W w') from HHT.out.2 ▸ height_any (HF6.out.below hW).env.env (tC nBase) zHd (C_firm (P := fun _ => False) nBase (by decide)).here (by kernel_rfl)))
                            go_wp2_with fail
                            refine (CE_any _ _).mono ?_
                            rintro y x6 ⟨rfl, k6⟩
                            have HK6 := Lib.hid k6
                            clear k6
                            go_wp2_with fail
                            refine (HA1.out x6 HK6.out).mono ?_
                            rintro y x7 ⟨rfl, k7⟩
                            have HK7 := Lib.hid (Trm.go HK6.out k7)
                            clear k7
                            go_wp2_with fail
                            refine (CE_any _ _).mono ?_
                            rintro y x8 ⟨rfl, k8⟩
                            have HK8 := Lib.hid (Trm.go HK7.out k8)
                            clear k8
                            go_wp2_with fail
                            refine (HA2.out x8 HK8.out).mono ?_
                            rintro y x9 ⟨rfl, k9⟩
                            have HK9 := Lib.hid (Trm.go HK8.out k9)
                            clear k9
                            go_wp2_with fail
                            refine (works7_any _).mono ?_
                            rintro y wz ⟨rfl, bz⟩
                            have HBZ := Lib.hid (Trm.go (Trm.go HF6.out.bel HK9.out) bz)
                            clear bz
                            go_wp2_with fail
                            go_ret
                            exact ⟨rfl, HBZ.out⟩
                          · have e4 : (R == 4) = false := by simp [h4]
                            clear h4
                            by_cases h5 : R = 5
                            · have e5 : (R == 5) = true := by simp [h5]
                              clear h5
                              go_wp2_with fail
                              refine (VE_any _).mono ?_
                              rintro y wt ⟨rfl, kt⟩
                              have HBT := Lib.hid kt
                              have HXT := Lib.hid (HX12.out.keep kt)
                              clear kt
                              obtain ⟨c8, c9, c10, c11, c12⟩ := t_cells gI.va hg.va HXT.out.va
                              have f8 := HXT.out.free 8
                              have f9 := HXT.out.free 9
                              have f10 := HXT.out.free 10
                              have f11 := HXT.out.free 11
                              have f12 := HXT.out.free 12
                              rw [show (tV 0).val zHd = .agg #[.int .u8 2, .int .i64 0, .string ⟨#[]⟩, .slice none 0 0, .slice none 0 0] from rfl]
                              go_upto_region 46 with fail
                              clear c8 c9 c10 c11 c12 f8 f9 f10 f11 f12
                              obtain ⟨Wf, hWf⟩ : ∃ W, W = putO wt b14 8 (.int .u8 2) (.int .i64 0) (.string ⟨#[]⟩) (.slice none 0 0) (.slice none 0 0) := ⟨_, rfl⟩
                              have hbelF : Below v2.heap.size v2 Wf := by rw [hWf]; exact (Trm.go HBW.out HBT.out |> fun h => h.trans ((RanS.of_ran (P := fun q => q = b14) (putO_ran wt b14 8 (.int .u8 2) (.int .i64 0) (.string ⟨#[]⟩) (.slice none 0 0) (.slice none 0 0)) rfl).below (fun q hq => by rw [hq]; exact HV14.out) h.size))
                              have HF1 := Lib.hid (H11.out.below hbelF)
                              have HG1 := Lib.hid (HG11.out.step (Step.of_below hbelF))
                              have HFB := Lib.hid (show FirmI P' Wf gI hg from HG1.out.2.2)
                              have HH1 := Lib.hid (show HoldI P' Wf b14 ({ gI with va := tV 0 } : Inf) { hg with va := zHd } from ⟨by rw [hWf]; exact (HXT.out.put5 8 (.int .u8 2) (.int .i64 0) (.string ⟨#[]⟩) (.slice none 0 0) (.slice none 0 0) rfl : IBox _ b14 ({ gI with va := tV 0 } : Inf) { hg with va := zHd }), fun q => by have := HNP.out b14 q; omega, ⟨⟨by decide, by decide, by decide, by decide⟩, HFB.out.ty, Env.firm_leaf (by decide) (by decide) (by decide) (by decide) (by decide), HFB.out.rules⟩⟩)
                              unfold putO at hWf
                              rw [← hWf]
                              clear hWf hbelF HX12 HCX HCF
                              have HW1 : Hid (addA M [({ gI with va := tV 0 } : Inf)] = 7) := Lib.hid (bad_want HLFT.out (({ gI with va := tV 0 } : Inf), 7) (by simp [bads]))
                              have HW2 : Hid (addA M [gI, ({ gI with va := tV 0 } : Inf)] ≠ 0) := Lib.hid (bad_two HLFT.out (({ gI with va := tV 0 } : Inf), 7) (by simp [bads]))
                              have HLS := Lib.hid (fun (W : World) (P : Nat → Prop) (mo : Option Nat) (v : Value) (hW : WS w W P e M mo v) => (show Calls Tryz.prog 17 #[.pointer (some ⟨e, 0, none⟩)] W (fun y w' => ∃ a c, y = .returned (.slice a M.length c) ∧ Below W.heap.size W w') from (list_any hW.env.env).mono (fun y w' h => by
                                obtain ⟨v', rfl, hr, hb⟩ := h
                                obtain ⟨a, c, rfl⟩ := row_slice hr
                                exact ⟨a, c, rfl, hb⟩)))
                              go_wp2_with fail
                              refine (HLS.out _ _ _ _ HF1.out).mono ?_
                              rintro y x1 ⟨a1, c1, rfl, k1⟩
                              have HF2 := Lib.hid (HF1.out.below k1)
                              have HH2 := Lib.hid (HH1.out.step (Step.of_below k1))
                              have HG2 := Lib.hid (HG1.out.step (Step.of_below k1))
                              clear k1 HF1 HH1 HG1
                              have hrow := HH2.out.1
                              go_wp2_with (first
                                | (refine wpList_load_row rfl 46 (.tmp 14) rfl b14 rfl 46 _ (0, 0) _ hrow Tryz.underlying46 rfl HKR.out ?_)
                                | (refine Go.Great.wpList_buildSliceTo rfl 22 46 1 _ rfl x1.heap.size rfl (some 123) rfl Tryz.underlying22 (({ gI with va := tV 0 } : Inf).vals { hg with va := zHd }).toArray (by kernel_rfl) ?_))
                              clear hrow
                              refine (HF2.out.addOne HH2.out.2.2 (by decide)).mono ?_
                              rintro y x2 ⟨rfl, M2, mo2, v2', P2, hto, hws, hst⟩
                              have hM2 : M2 = M := hto.no (by rw [HW1.out]; decide)
                              subst hM2
                              have HF3 := Lib.hid hws
                              have HH3 := Lib.hid (HH2.out.step hst)
                              have HG3 := Lib.hid (HG2.out.step hst)
                              rw [HW1.out]
                              clear hto hws hst HF2 HH2 HG2
                              have hrow := HH3.out.1
                              have hgrow := HG3.out.1
                              go_wp2_with (first
                                | (refine wpList_load_rowG rfl 46 (.tmp 7) rfl (some 129) rfl bG rfl 46 _ (0, 0) _ hgrow Tryz.underlying46 rfl HKR.out ?_)
                                | (refine wpList_load_rowG rfl 46 (.tmp 14) rfl (some 130) rfl b14 rfl 46 _ (0, 0) _ hrow Tryz.underlying46 rfl HKR.out ?_)
                                | (refine wpList_bsliceG rfl 22 46 2 _ rfl (some 131) rfl ((gI.vals hg) ++ (({ gI with va := tV 0 } : Inf).vals { hg with va := zHd })).toArray Tryz.underlying22 (by kernel_rfl) ?_))
                              clear hrow hgrow
                              refine (HF3.out.addTwo HG3.out.2.2 HH3.out.2.2 (by decide) (by decide)).mono ?_
                              rintro y x3 ⟨rfl, M3, mo3, v3', P3, hto, hws, hst⟩
                              have hM3 : M3 = M2 := hto.no HW2.out
                              subst hM3
                              have HF4 := Lib.hid hws
                              have HG4 := Lib.hid (HG3.out.step hst)
                              obtain ⟨zc2, hzc2⟩ : ∃ q, q = addA M3 [gI, ({ gI with va := tV 0 } : Inf)] := ⟨_, rfl⟩
                              have hz1 : (zc2 == 0) = false := by have := HW2.out; rw [← hzc2] at this; simpa using this
                              rw [← hzc2]
                              clear hto hws hst HF3 HH3 HG3 hzc2
                              go_wp2_with fail
                              refine (HLS.out _ _ _ _ HF4.out).mono ?_
                              rintro y x4 ⟨a4, c4, rfl, k4⟩
                              have HF5 := Lib.hid (HF4.out.below k4)
                              have HG5 := Lib.hid (HG4.out.step (Step.of_below k4))
                              clear k4 HF4 HG4
                              go_upto_region 49 with fail
                              have hgrow := HG5.out.1
                              go_wp2_with (first
                                | (refine wpList_load_row rfl 46 (.tmp 7) rfl bG rfl 46 _ (0, 0) _ hgrow Tryz.underlying46 rfl HKR.out ?_)
                                | (refine Go.Great.wpList_buildSliceTo rfl 22 46 1 _ rfl x4.heap.size rfl (some 144) rfl Tryz.underlying22 (gI.vals hg).toArray (by kernel_rfl) ?_))
                              clear hgrow
                              refine (HF5.out.addOne HG5.out.2.2 (by decide)).mono ?_
                              rintro y x5 ⟨rfl, M5, mo5, v5, P5, hto, hws, hst⟩
                              obtain ⟨bN, hN, hM5⟩ := (hto.yes (good_ok HLFT.out)).one
                              subst hM5
                              have HF6 := Lib.hid hws
                              have HHT := Lib.hid (good_height HLFT.out bN hN)
                              obtain ⟨X, hX⟩ : ∃ X, X = maxH M3 (tC nBase).nms := ⟨_, rfl⟩
                              have HMX := Lib.hid (maxH_le (L := M3) (l := (tC nBase).nms) (M := 4096) (by omega) (fun p hp => by have := (HF5.out.env.env.hgt p hp).2; have := HF5.out.env.env.few; omega))
                              rw [← hX] at HHT HMX
                              rw [good_ok HLFT.out]
                              clear hto hws hst HG5 hX HF5
                              have hw1 : wrap64 (1 + X) = 1 + X := IntWalk.wrap64_in _ (by have := HMX.out; omega)
                              have hw2 : IntKind.i64.wrap (1 + X) = 1 + X := IntWalk.i64_in _ (by have := HMX.out; omega)
                              have HA1 := Lib.hid (fun (W : World) (hW : Below x5.heap.size x5 W) => (show Calls Tryz.prog 30 #[.pointer (some ⟨e, 0, none⟩), (tC nGood).val zHd] W (fun y w' => y = .returned (.int .i64 (1 + X)) ∧ Below W.heap.size W w') from HHT.out.1 ▸ height_any (HF6.out.below hW).env.env (tC nGood) zHd (C_firm (P := fun _ => False) nGood (by decide)).here (by kernel_rfl)))
                              have HA2 := Lib.hid (fun (W : World) (hW : Below x5.heap.size x5 W) => (show Calls Tryz.prog 30 #[.pointer (some ⟨e, 0, none⟩), (tC nBase).val zHd] W (fun y w' => y = .returned (.int .i64 X) ∧ Below W.heap.size W w') from HHT.out.2 ▸ height_any (HF6.out.below hW).env.env (tC nBase) zHd (C_firm (P := fun _ => False) nBase (by decide)).here (by kernel_rfl)))
                              go_wp2_with fail
                              refine (CE_any _ _).mono ?_
                              rintro y x6 ⟨rfl, k6⟩
                              have HK6 := Lib.hid k6
                              clear k6
                              go_wp2_with fail
                              refine (HA1.out x6 HK6.out).mono ?_
                              rintro y x7 ⟨rfl, k7⟩
                              have HK7 := Lib.hid (Trm.go HK6.out k7)
                              clear k7
                              go_wp2_with fail
                              refine (CE_any _ _).mono ?_
                              rintro y x8 ⟨rfl, k8⟩
                              have HK8 := Lib.hid (Trm.go HK7.out k8)
                              clear k8
                              go_wp2_with fail
                              refine (HA2.out x8 HK8.out).mono ?_
                              rintro y x9 ⟨rfl, k9⟩
                              have HK9 := Lib.hid (Trm.go HK8.out k9)
                              clear k9
                              go_wp2_with fail
                              refine (works7_any _).mono ?_
                              rintro y wz ⟨rfl, bz⟩
                              have HBZ := Lib.hid (Trm.go (Trm.go HF6.out.bel HK9.out) bz)
                              clear bz
                              go_wp2_with fail
                              go_ret
                              exact ⟨rfl, HBZ.out⟩
                            · have e5 : (R == 5) = false := by simp [h5]
                              clear h5
                              by_cases h6 : R = 6
                              · have e6 : (R == 6) = true := by simp [h6]
                                clear h6
                                go_wp2_with fail
                                refine (SX_any _).mono ?_
                                rintro y wt ⟨gl, rfl, hgl, hgs, kt⟩
                                have HBT := Lib.hid kt
                                have HXT := Lib.hid (HX12.out.keep kt)
                                have HGL := Lib.hid hgl
                                have HGS := Lib.hid hgs
                                clear kt hgl hgs
                                have HKT : Hid ((Tryz.prog.info? 27).map (·.size) = some (tS.vals ⟨some ⟨gl, 0, none⟩, 1, none, 0⟩).size) := Lib.hid (by kernel_rfl)
                                unfold Tm.val
                                go_upto_region 40 with (refine wpList_store_row rfl 27 (.tmp 16) (.tmp 106) rfl wt.heap.size (tS.vals ⟨some ⟨gl, 0, none⟩, 1, none, 0⟩) rfl rfl 27 _ (World.alloc_heap_new wt _) HKT.out rfl (by kernel_rfl) ?_)
                                rw [World.setRow_alloc_new]
                                obtain ⟨wu, hwu⟩ : ∃ W, W = wt.alloc (.cells (tS.vals ⟨some ⟨gl, 0, none⟩, 1, none, 0⟩) 27) := ⟨_, rfl⟩
                                have hbu : Below wt.heap.size wt wu := hwu ▸ below_one _ _
                                have HBU := Lib.hid (Trm.go HBT.out hbu)
                                have HXU := Lib.hid (HXT.out.keep hbu)
                                have HGU := Lib.hid (Lvl.keep hbu HGL.out)
                                have HTU := Lib.hid (show wu.heap[wt.heap.size]? = some (tS.box ⟨some ⟨gl, 0, none⟩, 1, none, 0⟩) from hwu ▸ World.alloc_heap_new _ _)
                                obtain ⟨bt, hbt⟩ : ∃ b, b = wt.heap.size := ⟨_, rfl⟩
                                have HNE : Hid (gl ≠ bt ∧ gl ≠ b14 ∧ b14 ≠ bt ∧ W0.heap.size ≤ gl) := Lib.hid (by have h1 := (Array.getElem?_eq_some_iff.1 HGL.out).1; have h2 := HGS.out; have h3 := HLE.out; rw [hbt]; have := HBT.out.size; omega)
                                rw [← hbt] at HTU
                                rw [← hwu, ← hbt]
                                clear hwu hbu hbt HGL HXT
                                have t3 : wu.cell? ⟨bt, 3, none⟩ = some (.slice (some ⟨gl, 0, none⟩) 1 1) := (five_cells HTU.out).2.2.2.1
                                have g1 : wu.cell? ⟨gl, 1, none⟩ = some (.int .i64 (-1)) := (five_cells HGU.out).2.1
                                have k1 : wu.frozen? ⟨gl, 1, none⟩ = false := (five_free HGU.out).2.1
                                go_upto_region 41 with fail
                                clear t3 g1 k1
                                obtain ⟨wv, hwv⟩ : ∃ W, W = wu.setCell ⟨gl, 1, none⟩ (.int .i64 0) := ⟨_, rfl⟩
                                have hrv : RanS (fun q => q = gl) wu wv := by rw [hwv]; exact set_ranE (P := fun q => q = gl) wu gl 1 _ rfl
                                have HRV := Lib.hid hrv
                                have HGV := Lib.hid (show wv.heap[gl]? = some (.cells #[.int .i64 0, .int .i64 0, .int .i64 (-1), .int .i64 (-1), .int .i64 (-1)] 61) from by rw [hwv]; exact cells_setE (i := 1) HGU.out (.int .i64 0))
                                have HTV := Lib.hid (hrv.keep HTU.out (fun a => HNE.out.1 a.symm))
                                have HXV := Lib.hid (show IBox wv b14 gI hg from hrv.keep HXU.out (fun a => HNE.out.2.1 a.symm))
                                have HBV := Lib.hid (show Below v2.heap.size v2 wv from (Trm.go HBW.out HBU.out).trans (hrv.below (fun q hq => by rw [hq]; have := HNE.out.2.2.2; have := HBW.out.size; omega) (Trm.go HBW.out HBU.out).size))
                                rw [← hwv]
                                clear hwv hrv
                                have t0 : wv.cell? ⟨bt, 0, none⟩ = some (.int .u8 1) := (five_cells HTV.out).1
                                have t1 : wv.cell? ⟨bt, 1, none⟩ = some (.int .i64 0) := (five_cells HTV.out).2.1
                                have t2 : wv.cell? ⟨bt, 2, none⟩ = some (.string ⟨#[]⟩) := (five_cells HTV.out).2.2.1
                                have t3 : wv.cell? ⟨bt, 3, none⟩ = some (.slice (some ⟨gl, 0, none⟩) 1 1) := (five_cells HTV.out).2.2.2.1
                                have t4 : wv.cell? ⟨bt, 4, none⟩ = some (.slice none 0 0) := (five_cells HTV.out).2.2.2.2
                                obtain ⟨c3, c4, c5, c6, c7⟩ := t_cells gI.ty hg.ty HXV.out.ty
                                have f3 := HXV.out.free 3
                                have f4 := HXV.out.free 4
                                have f5 := HXV.out.free 5
                                have f6 := HXV.out.free 6
                                have f7 := HXV.out.free 7
                                go_upto_region 46 with fail
                                clear c3 c4 c5 c6 c7 f3 f4 f5 f6 f7 t0 t1 t2 t3 t4
                                obtain ⟨Wf, hWf⟩ : ∃ W, W = putO wv b14 3 (.int .u8 1) (.int .i64 0) (.string ⟨#[]⟩) (.slice (some ⟨gl, 0, none⟩) 1 1) (.slice none 0 0) := ⟨_, rfl⟩
                                have hbelF : Below v2.heap.size v2 Wf := by rw [hWf]; exact (HBV.out.trans ((RanS.of_ran (P := fun q => q = b14) (putO_ran wv b14 3 (.int .u8 1) (.int .i64 0) (.string ⟨#[]⟩) (.slice (some ⟨gl, 0, none⟩) 1 1) (.slice none 0 0)) rfl).below (fun q hq => by rw [hq]; exact HV14.out) HBV.out.size))
                                have HF1 := Lib.hid (H11.out.below hbelF)
                                have HG1 := Lib.hid (HG11.out.step (Step.of_below hbelF))
                                have HFB := Lib.hid (show FirmI P' Wf gI hg from HG1.out.2.2)
                                have HH1 := Lib.hid (show HoldI P' Wf b14 ({ gI with ty := tP } : Inf) { hg with ty := ⟨some ⟨gl, 0, none⟩, 1, none, 0⟩ } from ⟨by rw [hWf]; exact (HXV.out.put5 3 (.int .u8 1) (.int .i64 0) (.string ⟨#[]⟩) (.slice (some ⟨gl, 0, none⟩) 1 1) (.slice none 0 0) rfl : IBox _ b14 ({ gI with ty := tP } : Inf) { hg with ty := ⟨some ⟨gl, 0, none⟩, 1, none, 0⟩ }), fun q => by have := HNP.out b14 q; omega, ⟨⟨by decide, by decide, by decide, by decide⟩, fun W2 hr => tP_in (hr.keep (show Wf.heap[gl]? = _ from by rw [hWf]; exact (RanS.of_ran (P := fun q => q = b14) (putO_ran wv b14 3 (.int .u8 1) (.int .i64 0) (.string ⟨#[]⟩) (.slice (some ⟨gl, 0, none⟩) 1 1) (.slice none 0 0)) rfl).keep HGV.out HNE.out.2.1) (fun q => by have := HNP.out gl q; have := HNE.out.2.2.2; have := HLE.out; omega)) (by have h1 := hr.size; have h2 := (RanS.of_ran (P := fun q => q = b14) (putO_ran wv b14 3 (.int .u8 1) (.int .i64 0) (.string ⟨#[]⟩) (.slice (some ⟨gl, 0, none⟩) 1 1) (.slice none 0 0)) rfl).size; rw [← hWf] at h2; have h3 := (Array.getElem?_eq_some_iff.1 HGV.out).1; omega), HFB.out.va, HFB.out.rules⟩⟩)
                                unfold putO at hWf
                                rw [← hWf]
                                clear hWf hbelF HX12 HCX HCF
                                have HW1 : Hid (addA M [({ gI with ty := tP } : Inf)] = 8) := Lib.hid (bad_want HLFT.out (({ gI with ty := tP } : Inf), 8) (by simp [bads]))
                                have HW2 : Hid (addA M [gI, ({ gI with ty := tP } : Inf)] ≠ 0) := Lib.hid (bad_two HLFT.out (({ gI with ty := tP } : Inf), 8) (by simp [bads]))
                                have HLS := Lib.hid (fun (W : World) (P : Nat → Prop) (mo : Option Nat) (v : Value) (hW : WS w W P e M mo v) => (show Calls Tryz.prog 17 #[.pointer (some ⟨e, 0, none⟩)] W (fun y w' => ∃ a c, y = .returned (.slice a M.length c) ∧ Below W.heap.size W w') from (list_any hW.env.env).mono (fun y w' h => by
                                  obtain ⟨v', rfl, hr, hb⟩ := h
                                  obtain ⟨a, c, rfl⟩ := row_slice hr
                                  exact ⟨a, c, rfl, hb⟩)))
                                go_wp2_with fail
                                refine (HLS.out _ _ _ _ HF1.out).mono ?_
                                rintro y x1 ⟨a1, c1, rfl, k1⟩
                                have HF2 := Lib.hid (HF1.out.below k1)
                                have HH2 := Lib.hid (HH1.out.step (Step.of_below k1))
                                have HG2 := Lib.hid (HG1.out.step (Step.of_below k1))
                                clear k1 HF1 HH1 HG1
                                have hrow := HH2.out.1
                                go_wp2_with (first
                                  | (refine wpList_load_row rfl 46 (.tmp 14) rfl b14 rfl 46 _ (0, 0) _ hrow Tryz.underlying46 rfl HKR.out ?_)
                                  | (refine Go.Great.wpList_buildSliceTo rfl 22 46 1 _ rfl x1.heap.size rfl (some 123) rfl Tryz.underlying22 (({ gI with ty := tP } : Inf).vals { hg with ty := ⟨some ⟨gl, 0, none⟩, 1, none, 0⟩ }).toArray (by kernel_rfl) ?_))
                                clear hrow
                                refine (HF2.out.addOne HH2.out.2.2 (by decide)).mono ?_
                                rintro y x2 ⟨rfl, M2, mo2, v2', P2, hto, hws, hst⟩
                                have hM2 : M2 = M := hto.no (by rw [HW1.out]; decide)
                                subst hM2
                                have HF3 := Lib.hid hws
                                have HH3 := Lib.hid (HH2.out.step hst)
                                have HG3 := Lib.hid (HG2.out.step hst)
                                rw [HW1.out]
                                clear hto hws hst HF2 HH2 HG2
                                have hrow := HH3.out.1
                                have hgrow := HG3.out.1
                                go_wp2_with (first
                                  | (refine wpList_load_rowG rfl 46 (.tmp 7) rfl (some 129) rfl bG rfl 46 _ (0, 0) _ hgrow Tryz.underlying46 rfl HKR.out ?_)
                                  | (refine wpList_load_rowG rfl 46 (.tmp 14) rfl (some 130) rfl b14 rfl 46 _ (0, 0) _ hrow Tryz.underlying46 rfl HKR.out ?_)
                                  | (refine wpList_bsliceG rfl 22 46 2 _ rfl (some 131) rfl ((gI.vals hg) ++ (({ gI with ty := tP } : Inf).vals { hg with ty := ⟨some ⟨gl, 0, none⟩, 1, none, 0⟩ })).toArray Tryz.underlying22 (by kernel_rfl) ?_))
                                clear hrow hgrow
                                refine (HF3.out.addTwo HG3.out.2.2 HH3.out.2.2 (by decide) (by decide)).mono ?_
                                rintro y x3 ⟨rfl, M3, mo3, v3', P3, hto, hws, hst⟩
                                have hM3 : M3 = M2 := hto.no HW2.out
                                subst hM3
                                have HF4 := Lib.hid hws
                                have HG4 := Lib.hid (HG3.out.step hst)
                                obtain ⟨zc2, hzc2⟩ : ∃ q, q = addA M3 [gI, ({ gI with ty := tP } : Inf)] := ⟨_, rfl⟩
                                have hz1 : (zc2 == 0) = false := by have := HW2.out; rw [← hzc2] at this; simpa using this
                                rw [← hzc2]
                                clear hto hws hst HF3 HH3 HG3 hzc2
                                go_wp2_with fail
                                refine (HLS.out _ _ _ _ HF4.out).mono ?_
                                rintro y x4 ⟨a4, c4, rfl, k4⟩
                                have HF5 := Lib.hid (HF4.out.below k4)
                                have HG5 := Lib.hid (HG4.out.step (Step.of_below k4))
                                clear k4 HF4 HG4
                                go_upto_region 49 with fail
                                have hgrow := HG5.out.1
                                go_wp2_with (first
                                  | (refine wpList_load_row rfl 46 (.tmp 7) rfl bG rfl 46 _ (0, 0) _ hgrow Tryz.underlying46 rfl HKR.out ?_)
                                  | (refine Go.Great.wpList_buildSliceTo rfl 22 46 1 _ rfl x4.heap.size rfl (some 144) rfl Tryz.underlying22 (gI.vals hg).toArray (by kernel_rfl) ?_))
                                clear hgrow
                                refine (HF5.out.addOne HG5.out.2.2 (by decide)).mono ?_
                                rintro y x5 ⟨rfl, M5, mo5, v5, P5, hto, hws, hst⟩
                                obtain ⟨bN, hN, hM5⟩ := (hto.yes (good_ok HLFT.out)).one
                                subst hM5
                                have HF6 := Lib.hid hws
                                have HHT := Lib.hid (good_height HLFT.out bN hN)
                                obtain ⟨X, hX⟩ : ∃ X, X = maxH M3 (tC nBase).nms := ⟨_, rfl⟩
                                have HMX := Lib.hid (maxH_le (L := M3) (l := (tC nBase).nms) (M := 4096) (by omega) (fun p hp => by have := (HF5.out.env.env.hgt p hp).2; have := HF5.out.env.env.few; omega))
                                rw [← hX] at HHT HMX
                                rw [good_ok HLFT.out]
                                clear hto hws hst HG5 hX HF5
                                have hw1 : wrap64 (1 + X) = 1 + X := IntWalk.wrap64_in _ (by have := HMX.out; omega)
                                have hw2 : IntKind.i64.wrap (1 + X) = 1 + X := IntWalk.i64_in _ (by have := HMX.out; omega)
                                have HA1 := Lib.hid (fun (W : World) (hW : Below x5.heap.size x5 W) => (show Calls Tryz.prog 30 #[.pointer (some ⟨e, 0, none⟩), (tC nGood).val zHd] W (fun y w' => y = .returned (.int .i64 (1 + X)) ∧ Below W.heap.size W w') from HHT.out.1 ▸ height_any (HF6.out.below hW).env.env (tC nGood) zHd (C_firm (P := fun _ => False) nGood (by decide)).here (by kernel_rfl)))
                                have HA2 := Lib.hid (fun (W : World) (hW : Below x5.heap.size x5 W) => (show Calls Tryz.prog 30 #[.pointer (some ⟨e, 0, none⟩), (tC nBase).val zHd] W (fun y w' => y = .returned (.int .i64 X) ∧ Below W.heap.size W w') from HHT.out.2 ▸ height_any (HF6.out.below hW).env.env (tC nBase) zHd (C_firm (P := fun _ => False) nBase (by decide)).here (by kernel_rfl)))
                                go_wp2_with fail
                                refine (CE_any _ _).mono ?_
                                rintro y x6 ⟨rfl, k6⟩
                                have HK6 := Lib.hid k6
                                clear k6
                                go_wp2_with fail
                                refine (HA1.out x6 HK6.out).mono ?_
                                rintro y x7 ⟨rfl, k7⟩
                                have HK7 := Lib.hid (Trm.go HK6.out k7)
                                clear k7
                                go_wp2_with fail
                                refine (CE_any _ _).mono ?_
                                rintro y x8 ⟨rfl, k8⟩
                                have HK8 := Lib.hid (Trm.go HK7.out k8)
                                clear k8
                                go_wp2_with fail
                                refine (HA2.out x8 HK8.out).mono ?_
                                rintro y x9 ⟨rfl, k9⟩
                                have HK9 := Lib.hid (Trm.go HK8.out k9)
                                clear k9
                                go_wp2_with fail
                                refine (works7_any _).mono ?_
                                rintro y wz ⟨rfl, bz⟩
                                have HBZ := Lib.hid (Trm.go (Trm.go HF6.out.bel HK9.out) bz)
                                clear bz
                                go_wp2_with fail
                                go_ret
                                exact ⟨rfl, HBZ.out⟩
                              · have e6 : (R == 6) = false := by simp [h6]
                                clear h6
                                by_cases h7 : R = 7
                                · have e7 : (R == 7) = true := by simp [h7]
                                  clear h7
                                  go_wp2_with fail
                                  refine (CE_any _ _).mono ?_
                                  rintro y wt ⟨rfl, kt⟩
                                  have HBT := Lib.hid kt
                                  have HXT := Lib.hid (HX12.out.keep kt)
                                  clear kt
                                  obtain ⟨c8, c9, c10, c11, c12⟩ := t_cells gI.va hg.va HXT.out.va
                                  have f8 := HXT.out.free 8
                                  have f9 := HXT.out.free 9
                                  have f10 := HXT.out.free 10
                                  have f11 := HXT.out.free 11
                                  have f12 := HXT.out.free 12
                                  rw [show (tC ⟨#[110, 111, 98, 111, 100, 121, 39]⟩).val zHd = .agg #[.int .u8 3, .int .i64 0, .string ⟨#[110, 111, 98, 111, 100, 121, 39]⟩, .slice none 0 0, .slice none 0 0] from rfl]
                                  go_upto_region 46 with fail
                                  clear c8 c9 c10 c11 c12 f8 f9 f10 f11 f12
                                  obtain ⟨Wf, hWf⟩ : ∃ W, W = putO wt b14 8 (.int .u8 3) (.int .i64 0) (.string ⟨#[110, 111, 98, 111, 100, 121, 39]⟩) (.slice none 0 0) (.slice none 0 0) := ⟨_, rfl⟩
                                  have hbelF : Below v2.heap.size v2 Wf := by rw [hWf]; exact (Trm.go HBW.out HBT.out |> fun h => h.trans ((RanS.of_ran (P := fun q => q = b14) (putO_ran wt b14 8 (.int .u8 3) (.int .i64 0) (.string ⟨#[110, 111, 98, 111, 100, 121, 39]⟩) (.slice none 0 0) (.slice none 0 0)) rfl).below (fun q hq => by rw [hq]; exact HV14.out) h.size))
                                  have HF1 := Lib.hid (H11.out.below hbelF)
                                  have HG1 := Lib.hid (HG11.out.step (Step.of_below hbelF))
                                  have HFB := Lib.hid (show FirmI P' Wf gI hg from HG1.out.2.2)
                                  have HH1 := Lib.hid (show HoldI P' Wf b14 ({ gI with va := tC nNobody } : Inf) { hg with va := zHd } from ⟨by rw [hWf]; exact (HXT.out.put5 8 (.int .u8 3) (.int .i64 0) (.string ⟨#[110, 111, 98, 111, 100, 121, 39]⟩) (.slice none 0 0) (.slice none 0 0) rfl : IBox _ b14 ({ gI with va := tC nNobody } : Inf) { hg with va := zHd }), fun q => by have := HNP.out b14 q; omega, ⟨⟨by decide, by decide, by decide, by decide⟩, HFB.out.ty, C_firm nNobody (by decide), HFB.out.rules⟩⟩)
                                  unfold putO at hWf
                                  rw [← hWf]
                                  clear hWf hbelF HX12 HCX HCF
                                  have HW1 : Hid (addA M [({ gI with va := tC nNobody } : Inf)] = 6) := Lib.hid (bad_want HLFT.out (({ gI with va := tC nNobody } : Inf), 6) (by simp [bads]))
                                  have HW2 : Hid (addA M [gI, ({ gI with va := tC nNobody } : Inf)] ≠ 0) := Lib.hid (bad_two HLFT.out (({ gI with va := tC nNobody } : Inf), 6) (by simp [bads]))
                                  have HLS := Lib.hid (fun (W : World) (P : Nat → Prop) (mo : Option Nat) (v : Value) (hW : WS w W P e M mo v) => (show Calls Tryz.prog 17 #[.pointer (some ⟨e, 0, none⟩)] W (fun y w' => ∃ a c, y = .returned (.slice a M.length c) ∧ Below W.heap.size W w') from (list_any hW.env.env).mono (fun y w' h => by
                                    obtain ⟨v', rfl, hr, hb⟩ := h
                                    obtain ⟨a, c, rfl⟩ := row_slice hr
                                    exact ⟨a, c, rfl, hb⟩)))
                                  go_wp2_with fail
                                  refine (HLS.out _ _ _ _ HF1.out).mono ?_
                                  rintro y x1 ⟨a1, c1, rfl, k1⟩
                                  have HF2 := Lib.hid (HF1.out.below k1)
                                  have HH2 := Lib.hid (HH1.out.step (Step.of_below k1))
                                  have HG2 := Lib.hid (HG1.out.step (Step.of_below k1))
                                  clear k1 HF1 HH1 HG1
                                  have hrow := HH2.out.1
                                  go_wp2_with (first
                                    | (refine wpList_load_row rfl 46 (.tmp 14) rfl b14 rfl 46 _ (0, 0) _ hrow Tryz.underlying46 rfl HKR.out ?_)
                                    | (refine Go.Great.wpList_buildSliceTo rfl 22 46 1 _ rfl x1.heap.size rfl (some 123) rfl Tryz.underlying22 (({ gI with va := tC nNobody } : Inf).vals { hg with va := zHd }).toArray (by kernel_rfl) ?_))
                                  clear hrow
                                  refine (HF2.out.addOne HH2.out.2.2 (by decide)).mono ?_
                                  rintro y x2 ⟨rfl, M2, mo2, v2', P2, hto, hws, hst⟩
                                  have hM2 : M2 = M := hto.no (by rw [HW1.out]; decide)
                                  subst hM2
                                  have HF3 := Lib.hid hws
                                  have HH3 := Lib.hid (HH2.out.step hst)
                                  have HG3 := Lib.hid (HG2.out.step hst)
                                  rw [HW1.out]
                                  clear hto hws hst HF2 HH2 HG2
                                  have hrow := HH3.out.1
                                  have hgrow := HG3.out.1
                                  go_wp2_with (first
                                    | (refine wpList_load_rowG rfl 46 (.tmp 7) rfl (some 129) rfl bG rfl 46 _ (0, 0) _ hgrow Tryz.underlying46 rfl HKR.out ?_)
                                    | (refine wpList_load_rowG rfl 46 (.tmp 14) rfl (some 130) rfl b14 rfl 46 _ (0, 0) _ hrow Tryz.underlying46 rfl HKR.out ?_)
                                    | (refine wpList_bsliceG rfl 22 46 2 _ rfl (some 131) rfl ((gI.vals hg) ++ (({ gI with va := tC nNobody } : Inf).vals { hg with va := zHd })).toArray Tryz.underlying22 (by kernel_rfl) ?_))
                                  clear hrow hgrow
                                  refine (HF3.out.addTwo HG3.out.2.2 HH3.out.2.2 (by decide) (by decide)).mono ?_
                                  rintro y x3 ⟨rfl, M3, mo3, v3', P3, hto, hws, hst⟩
                                  have hM3 : M3 = M2 := hto.no HW2.out
                                  subst hM3
                                  have HF4 := Lib.hid hws
                                  have HG4 := Lib.hid (HG3.out.step hst)
                                  obtain ⟨zc2, hzc2⟩ : ∃ q, q = addA M3 [gI, ({ gI with va := tC nNobody } : Inf)] := ⟨_, rfl⟩
                                  have hz1 : (zc2 == 0) = false := by have := HW2.out; rw [← hzc2] at this; simpa using this
                                  rw [← hzc2]
                                  clear hto hws hst HF3 HH3 HG3 hzc2
                                  go_wp2_with fail
                                  refine (HLS.out _ _ _ _ HF4.out).mono ?_
                                  rintro y x4 ⟨a4, c4, rfl, k4⟩
                                  have HF5 := Lib.hid (HF4.out.below k4)
                                  have HG5 := Lib.hid (HG4.out.step (Step.of_below k4))
                                  clear k4 HF4 HG4
                                  go_upto_region 49 with fail
                                  have hgrow := HG5.out.1
                                  go_wp2_with (first
                                    | (refine wpList_load_row rfl 46 (.tmp 7) rfl bG rfl 46 _ (0, 0) _ hgrow Tryz.underlying46 rfl HKR.out ?_)
                                    | (refine Go.Great.wpList_buildSliceTo rfl 22 46 1 _ rfl x4.heap.size rfl (some 144) rfl Tryz.underlying22 (gI.vals hg).toArray (by kernel_rfl) ?_))
                                  clear hgrow
                                  refine (HF5.out.addOne HG5.out.2.2 (by decide)).mono ?_
                                  rintro y x5 ⟨rfl, M5, mo5, v5, P5, hto, hws, hst⟩
                                  obtain ⟨bN, hN, hM5⟩ := (hto.yes (good_ok HLFT.out)).one
                                  subst hM5
                                  have HF6 := Lib.hid hws
                                  have HHT := Lib.hid (good_height HLFT.out bN hN)
                                  obtain ⟨X, hX⟩ : ∃ X, X = maxH M3 (tC nBase).nms := ⟨_, rfl⟩
                                  have HMX := Lib.hid (maxH_le (L := M3) (l := (tC nBase).nms) (M := 4096) (by omega) (fun p hp => by have := (HF5.out.env.env.hgt p hp).2; have := HF5.out.env.env.few; omega))
                                  rw [← hX] at HHT HMX
                                  rw [good_ok HLFT.out]
                                  clear hto hws hst HG5 hX HF5
                                  have hw1 : wrap64 (1 + X) = 1 + X := IntWalk.wrap64_in _ (by have := HMX.out; omega)
                                  have hw2 : IntKind.i64.wrap (1 + X) = 1 + X := IntWalk.i64_in _ (by have := HMX.out; omega)
                                  have HA1 := Lib.hid (fun (W : World) (hW : Below x5.heap.size x5 W) => (show Calls Tryz.prog 30 #[.pointer (some ⟨e, 0, none⟩), (tC nGood).val zHd] W (fun y w' => y = .returned (.int .i64 (1 + X)) ∧ Below W.heap.size W w') from HHT.out.1 ▸ height_any (HF6.out.below hW).env.env (tC nGood) zHd (C_firm (P := fun _ => False) nGood (by decide)).here (by kernel_rfl)))
                                  have HA2 := Lib.hid (fun (W : World) (hW : Below x5.heap.size x5 W) => (show Calls Tryz.prog 30 #[.pointer (some ⟨e, 0, none⟩), (tC nBase).val zHd] W (fun y w' => y = .returned (.int .i64 X) ∧ Below W.heap.size W w') from HHT.out.2 ▸ height_any (HF6.out.below hW).env.env (tC nBase) zHd (C_firm (P := fun _ => False) nBase (by decide)).here (by kernel_rfl)))
                                  go_wp2_with fail
                                  refine (CE_any _ _).mono ?_
                                  rintro y x6 ⟨rfl, k6⟩
                                  have HK6 := Lib.hid k6
                                  clear k6
                                  go_wp2_with fail
                                  refine (HA1.out x6 HK6.out).mono ?_
                                  rintro y x7 ⟨rfl, k7⟩
                                  have HK7 := Lib.hid (Trm.go HK6.out k7)
                                  clear k7
                                  go_wp2_with fail
                                  refine (CE_any _ _).mono ?_
                                  rintro y x8 ⟨rfl, k8⟩
                                  have HK8 := Lib.hid (Trm.go HK7.out k8)
                                  clear k8
                                  go_wp2_with fail
                                  refine (HA2.out x8 HK8.out).mono ?_
                                  rintro y x9 ⟨rfl, k9⟩
                                  have HK9 := Lib.hid (Trm.go HK8.out k9)
                                  clear k9
                                  go_wp2_with fail
                                  refine (works7_any _).mono ?_
                                  rintro y wz ⟨rfl, bz⟩
                                  have HBZ := Lib.hid (Trm.go (Trm.go HF6.out.bel HK9.out) bz)
                                  clear bz
                                  go_wp2_with fail
                                  go_ret
                                  exact ⟨rfl, HBZ.out⟩
                                · have e7 : (R == 7) = false := by simp [h7]
                                  clear h7
                                  go_wp2_with fail
                                  refine (CE_any _ _).mono ?_
                                  rintro y wt ⟨rfl, kt⟩
                                  have HBT := Lib.hid kt
                                  have HXT := Lib.hid (HX12.out.keep kt)
                                  clear kt
                                  obtain ⟨c8, c9, c10, c11, c12⟩ := t_cells gI.va hg.va HXT.out.va
                                  have f8 := HXT.out.free 8
                                  have f9 := HXT.out.free 9
                                  have f10 := HXT.out.free 10
                                  have f11 := HXT.out.free 11
                                  have f12 := HXT.out.free 12
                                  rw [show (tC ⟨#[103, 111, 111, 100, 39]⟩).val zHd = .agg #[.int .u8 3, .int .i64 0, .string ⟨#[103, 111, 111, 100, 39]⟩, .slice none 0 0, .slice none 0 0] from rfl]
                                  go_upto_region 46 with fail
                                  clear c8 c9 c10 c11 c12 f8 f9 f10 f11 f12
                                  obtain ⟨Wf, hWf⟩ : ∃ W, W = putO wt b14 8 (.int .u8 3) (.int .i64 0) (.string ⟨#[103, 111, 111, 100, 39]⟩) (.slice none 0 0) (.slice none 0 0) := ⟨_, rfl⟩
                                  have hbelF : Below v2.heap.size v2 Wf := by rw [hWf]; exact (Trm.go HBW.out HBT.out |> fun h => h.trans ((RanS.of_ran (P := fun q => q = b14) (putO_ran wt b14 8 (.int .u8 3) (.int .i64 0) (.string ⟨#[103, 111, 111, 100, 39]⟩) (.slice none 0 0) (.slice none 0 0)) rfl).below (fun q hq => by rw [hq]; exact HV14.out) h.size))
                                  have HF1 := Lib.hid (H11.out.below hbelF)
                                  have HG1 := Lib.hid (HG11.out.step (Step.of_below hbelF))
                                  have HFB := Lib.hid (show FirmI P' Wf gI hg from HG1.out.2.2)
                                  have HH1 := Lib.hid (show HoldI P' Wf b14 ({ gI with va := tC nGood } : Inf) { hg with va := zHd } from ⟨by rw [hWf]; exact (HXT.out.put5 8 (.int .u8 3) (.int .i64 0) (.string ⟨#[103, 111, 111, 100, 39]⟩) (.slice none 0 0) (.slice none 0 0) rfl : IBox _ b14 ({ gI with va := tC nGood } : Inf) { hg with va := zHd }), fun q => by have := HNP.out b14 q; omega, ⟨⟨by decide, by decide, by decide, by decide⟩, HFB.out.ty, C_firm nGood (by decide), HFB.out.rules⟩⟩)
                                  unfold putO at hWf
                                  rw [← hWf]
                                  clear hWf hbelF HX12 HCX HCF
                                  have HW1 : Hid (addA M [({ gI with va := tC nGood } : Inf)] = 6) := Lib.hid (bad_want HLFT.out (({ gI with va := tC nGood } : Inf), 6) (by simp [bads]))
                                  have HW2 : Hid (addA M [gI, ({ gI with va := tC nGood } : Inf)] ≠ 0) := Lib.hid (bad_two HLFT.out (({ gI with va := tC nGood } : Inf), 6) (by simp [bads]))
                                  have HLS := Lib.hid (fun (W : World) (P : Nat → Prop) (mo : Option Nat) (v : Value) (hW : WS w W P e M mo v) => (show Calls Tryz.prog 17 #[.pointer (some ⟨e, 0, none⟩)] W (fun y w' => ∃ a c, y = .returned (.slice a M.length c) ∧ Below W.heap.size W w') from (list_any hW.env.env).mono (fun y w' h => by
                                    obtain ⟨v', rfl, hr, hb⟩ := h
                                    obtain ⟨a, c, rfl⟩ := row_slice hr
                                    exact ⟨a, c, rfl, hb⟩)))
                                  go_wp2_with fail
                                  refine (HLS.out _ _ _ _ HF1.out).mono ?_
                                  rintro y x1 ⟨a1, c1, rfl, k1⟩
                                  have HF2 := Lib.hid (HF1.out.below k1)
                                  have HH2 := Lib.hid (HH1.out.step (Step.of_below k1))
                                  have HG2 := Lib.hid (HG1.out.step (Step.of_below k1))
                                  clear k1 HF1 HH1 HG1
                                  have hrow := HH2.out.1
                                  go_wp2_with (first
                                    | (refine wpList_load_row rfl 46 (.tmp 14) rfl b14 rfl 46 _ (0, 0) _ hrow Tryz.underlying46 rfl HKR.out ?_)
                                    | (refine Go.Great.wpList_buildSliceTo rfl 22 46 1 _ rfl x1.heap.size rfl (some 123) rfl Tryz.underlying22 (({ gI with va := tC nGood } : Inf).vals { hg with va := zHd }).toArray (by kernel_rfl) ?_))
                                  clear hrow
                                  refine (HF2.out.addOne HH2.out.2.2 (by decide)).mono ?_
                                  rintro y x2 ⟨rfl, M2, mo2, v2', P2, hto, hws, hst⟩
                                  have hM2 : M2 = M := hto.no (by rw [HW1.out]; decide)
                                  subst hM2
                                  have HF3 := Lib.hid hws
                                  have HH3 := Lib.hid (HH2.out.step hst)
                                  have HG3 := Lib.hid (HG2.out.step hst)
                                  rw [HW1.out]
                                  clear hto hws hst HF2 HH2 HG2
                                  have hrow := HH3.out.1
                                  have hgrow := HG3.out.1
                                  go_wp2_with (first
                                    | (refine wpList_load_rowG rfl 46 (.tmp 7) rfl (some 129) rfl bG rfl 46 _ (0, 0) _ hgrow Tryz.underlying46 rfl HKR.out ?_)
                                    | (refine wpList_load_rowG rfl 46 (.tmp 14) rfl (some 130) rfl b14 rfl 46 _ (0, 0) _ hrow Tryz.underlying46 rfl HKR.out ?_)
                                    | (refine wpList_bsliceG rfl 22 46 2 _ rfl (some 131) rfl ((gI.vals hg) ++ (({ gI with va := tC nGood } : Inf).vals { hg with va := zHd })).toArray Tryz.underlying22 (by kernel_rfl) ?_))
                                  clear hrow hgrow
                                  refine (HF3.out.addTwo HG3.out.2.2 HH3.out.2.2 (by decide) (by decide)).mono ?_
                                  rintro y x3 ⟨rfl, M3, mo3, v3', P3, hto, hws, hst⟩
                                  have hM3 : M3 = M2 := hto.no HW2.out
                                  subst hM3
                                  have HF4 := Lib.hid hws
                                  have HG4 := Lib.hid (HG3.out.step hst)
                                  obtain ⟨zc2, hzc2⟩ : ∃ q, q = addA M3 [gI, ({ gI with va := tC nGood } : Inf)] := ⟨_, rfl⟩
                                  have hz1 : (zc2 == 0) = false := by have := HW2.out; rw [← hzc2] at this; simpa using this
                                  rw [← hzc2]
                                  clear hto hws hst HF3 HH3 HG3 hzc2
                                  go_wp2_with fail
                                  refine (HLS.out _ _ _ _ HF4.out).mono ?_
                                  rintro y x4 ⟨a4, c4, rfl, k4⟩
                                  have HF5 := Lib.hid (HF4.out.below k4)
                                  have HG5 := Lib.hid (HG4.out.step (Step.of_below k4))
                                  clear k4 HF4 HG4
                                  go_upto_region 49 with fail
                                  have hgrow := HG5.out.1
                                  go_wp2_with (first
                                    | (refine wpList_load_row rfl 46 (.tmp 7) rfl bG rfl 46 _ (0, 0) _ hgrow Tryz.underlying46 rfl HKR.out ?_)
                                    | (refine Go.Great.wpList_buildSliceTo rfl 22 46 1 _ rfl x4.heap.size rfl (some 144) rfl Tryz.underlying22 (gI.vals hg).toArray (by kernel_rfl) ?_))
                                  clear hgrow
                                  refine (HF5.out.addOne HG5.out.2.2 (by decide)).mono ?_
                                  rintro y x5 ⟨rfl, M5, mo5, v5, P5, hto, hws, hst⟩
                                  obtain ⟨bN, hN, hM5⟩ := (hto.yes (good_ok HLFT.out)).one
                                  subst hM5
                                  have HF6 := Lib.hid hws
                                  have HHT := Lib.hid (good_height HLFT.out bN hN)
                                  obtain ⟨X, hX⟩ : ∃ X, X = maxH M3 (tC nBase).nms := ⟨_, rfl⟩
                                  have HMX := Lib.hid (maxH_le (L := M3) (l := (tC nBase).nms) (M := 4096) (by omega) (fun p hp => by have := (HF5.out.env.env.hgt p hp).2; have := HF5.out.env.env.few; omega))
                                  rw [← hX] at HHT HMX
                                  rw [good_ok HLFT.out]
                                  clear hto hws hst HG5 hX HF5
                                  have hw1 : wrap64 (1 + X) = 1 + X := IntWalk.wrap64_in _ (by have := HMX.out; omega)
                                  have hw2 : IntKind.i64.wrap (1 + X) = 1 + X := IntWalk.i64_in _ (by have := HMX.out; omega)
                                  have HA1 := Lib.hid (fun (W : World) (hW : Below x5.heap.size x5 W) => (show Calls Tryz.prog 30 #[.pointer (some ⟨e, 0, none⟩), (tC nGood).val zHd] W (fun y w' => y = .returned (.int .i64 (1 + X)) ∧ Below W.heap.size W w') from HHT.out.1 ▸ height_any (HF6.out.below hW).env.env (tC nGood) zHd (C_firm (P := fun _ => False) nGood (by decide)).here (by kernel_rfl)))
                                  have HA2 := Lib.hid (fun (W : World) (hW : Below x5.heap.size x5 W) => (show Calls Tryz.prog 30 #[.pointer (some ⟨e, 0, none⟩), (tC nBase).val zHd] W (fun y w' => y = .returned (.int .i64 X) ∧ Below W.heap.size W w') from HHT.out.2 ▸ height_any (HF6.out.below hW).env.env (tC nBase) zHd (C_firm (P := fun _ => False) nBase (by decide)).here (by kernel_rfl)))
                                  go_wp2_with fail
                                  refine (CE_any _ _).mono ?_
                                  rintro y x6 ⟨rfl, k6⟩
                                  have HK6 := Lib.hid k6
                                  clear k6
                                  go_wp2_with fail
                                  refine (HA1.out x6 HK6.out).mono ?_
                                  rintro y x7 ⟨rfl, k7⟩
                                  have HK7 := Lib.hid (Trm.go HK6.out k7)
                                  clear k7
                                  go_wp2_with fail
                                  refine (CE_any _ _).mono ?_
                                  rintro y x8 ⟨rfl, k8⟩
                                  have HK8 := Lib.hid (Trm.go HK7.out k8)
                                  clear k8
                                  go_wp2_with fail
                                  refine (HA2.out x8 HK8.out).mono ?_
                                  rintro y x9 ⟨rfl, k9⟩
                                  have HK9 := Lib.hid (Trm.go HK8.out k9)
                                  clear k9
                                  go_wp2_with fail
                                  refine (works7_any _).mono ?_
                                  rintro y wz ⟨rfl, bz⟩
                                  have HBZ := Lib.hid (Trm.go (Trm.go HF6.out.bel HK9.out) bz)
                                  clear bz
                                  go_wp2_with fail
                                  go_ret
                                  exact ⟨rfl, HBZ.out⟩
              · refine wp_region_held_drew (S := fun w' => w'.cell? ⟨c9, 3, none⟩ = some (.int .u8 t.k) ∧ w'.cell? ⟨c9, 4, none⟩ = some (.int .i64 t.n) ∧ w'.cell? ⟨c9, 5, none⟩ = some (.string t.s) ∧ w'.cell? ⟨c9, 6, none⟩ = some (.slice h9.ty.lo t.ls.length h9.ty.lc) ∧ w'.cell? ⟨c9, 7, none⟩ = some (.slice h9.ty.to t.ts.length h9.ty.tc)) (by kernel_rfl) (HCT.out _ HB0.out) (fun hHeld => ?_)
                refine wpAnyH_take (i := 0) (v := ?vwc0) rfl (by kernel_rfl) (by kernel_rfl) (by kernel_rfl) (fun _ _ _ h => h) (Or.inl ⟨by rfl, ?hywc0⟩) (by assumption) ?restwc0
                case hywc0 => (intro w hSw; (try dsimp only at hSw); go_simp <;> with_reducible rfl)
                try simp only [List.getElem_toArray, List.getElem_cons_zero, Act.put, List.setIfInBounds_toArray, List.set_cons_zero, List.set_cons_succ]
                refine wpAnyH_take (i := 1) (v := ?vwc1) rfl (by kernel_rfl) (by kernel_rfl) (by kernel_rfl) (fun _ _ _ h => h) (Or.inl ⟨by rfl, ?hywc1⟩) (by assumption) ?restwc1
                case hywc1 => (intro w hSw; (try dsimp only at hSw); go_simp <;> with_reducible rfl)
                try simp only [List.getElem_toArray, List.getElem_cons_succ, List.getElem_cons_zero, Act.put, List.setIfInBounds_toArray, List.set_cons_zero, List.set_cons_succ]
                refine wpAnyH_take (i := 2) (v := ?vwc2) rfl (by kernel_rfl) (by kernel_rfl) (by kernel_rfl) (fun _ _ _ h => h) (Or.inl ⟨by rfl, ?hywc2⟩) (by assumption) ?restwc2
                case hywc2 => (intro w hSw; (try dsimp only at hSw); go_simp <;> with_reducible rfl)
                try simp only [List.getElem_toArray, List.getElem_cons_succ, List.getElem_cons_zero, Act.put, List.setIfInBounds_toArray, List.set_cons_zero, List.set_cons_succ]
                refine wpAnyH_take (i := 3) (v := ?vwc3) rfl (by kernel_rfl) (by kernel_rfl) (by kernel_rfl) (fun _ _ _ h => h) (Or.inl ⟨by rfl, ?hywc3⟩) (by assumption) ?restwc3
                case hywc3 => (intro w hSw; (try dsimp only at hSw); go_simp <;> with_reducible rfl)
                try simp only [List.getElem_toArray, List.getElem_cons_succ, List.getElem_cons_zero, Act.put, List.setIfInBounds_toArray, List.set_cons_zero, List.set_cons_succ]
                refine wpAnyH_take (i := 4) (v := ?vwc4) rfl (by kernel_rfl) (by kernel_rfl) (by kernel_rfl) (fun _ _ _ h => h) (Or.inl ⟨by rfl, ?hywc4⟩) (by assumption) ?restwc4
                case hywc4 => (intro w hSw; (try dsimp only at hSw); go_simp <;> with_reducible rfl)
                try simp only [List.getElem_toArray, List.getElem_cons_succ, List.getElem_cons_zero, Act.put, List.setIfInBounds_toArray, List.set_cons_zero, List.set_cons_succ]
                refine wpAnyH_take (i := 5) (v := ?vwc5) rfl (by kernel_rfl) (by kernel_rfl) (by kernel_rfl) (fun _ _ _ h => h) (Or.inl ⟨by rfl, ?hywc5⟩) (by assumption) ?restwc5
                case hywc5 => (intro w hSw; (try dsimp only at hSw); go_simp <;> with_reducible rfl)
                try simp only [List.getElem_toArray, List.getElem_cons_succ, List.getElem_cons_zero, Act.put, List.setIfInBounds_toArray, List.set_cons_zero, List.set_cons_succ]
                refine wpAnyH_take (i := 6) (v := ?vwc6) rfl (by kernel_rfl) (by kernel_rfl) (by kernel_rfl) (fun _ _ _ h => h) (Or.inl ⟨by rfl, ?hywc6⟩) (by assumption) ?restwc6
                case hywc6 => (intro w hSw; (try dsimp only at hSw); go_simp <;> with_reducible rfl)
                try simp only [List.getElem_toArray, List.getElem_cons_succ, List.getElem_cons_zero, Act.put, List.setIfInBounds_toArray, List.set_cons_zero, List.set_cons_succ]
                refine wpAnyH_take (i := 7) (v := ?vwc7) rfl (by kernel_rfl) (by kernel_rfl) (by kernel_rfl) (fun _ _ _ h => h) (Or.inl ⟨by rfl, ?hywc7⟩) (by assumption) ?restwc7
                case hywc7 => (intro w hSw; (try dsimp only at hSw); go_simp <;> with_reducible rfl)
                try simp only [List.getElem_toArray, List.getElem_cons_succ, List.getElem_cons_zero, Act.put, List.setIfInBounds_toArray, List.set_cons_zero, List.set_cons_succ]
                refine wpAnyH_take (i := 8) (v := ?vwc8) rfl (by kernel_rfl) (by kernel_rfl) (by kernel_rfl) (fun _ _ _ h => h) (Or.inl ⟨by rfl, ?hywc8⟩) (by assumption) ?restwc8
                case hywc8 => (intro w hSw; (try dsimp only at hSw); go_simp <;> with_reducible rfl)
                try simp only [List.getElem_toArray, List.getElem_cons_succ, List.getElem_cons_zero, Act.put, List.setIfInBounds_toArray, List.set_cons_zero, List.set_cons_succ]
                refine wpAnyH_take (i := 9) (v := undef) rfl (by kernel_rfl) (by kernel_rfl) (by kernel_rfl) (fun _ _ _ h => h) (Or.inr ⟨by rfl, rfl⟩) (by assumption) ?_
                try simp only [List.getElem_toArray, List.getElem_cons_succ, List.getElem_cons_zero, Act.put, List.setIfInBounds_toArray, List.set_cons_zero, List.set_cons_succ]
                refine wpAnyH_take (i := 10) (v := undef) rfl (by kernel_rfl) (by kernel_rfl) (by kernel_rfl) (fun _ _ _ h => h) (Or.inr ⟨by rfl, rfl⟩) (by assumption) ?_
                try simp only [List.getElem_toArray, List.getElem_cons_succ, List.getElem_cons_zero, Act.put, List.setIfInBounds_toArray, List.set_cons_zero, List.set_cons_succ]
                refine wpAnyH_take (i := 11) (v := undef) rfl (by kernel_rfl) (by kernel_rfl) (by kernel_rfl) (fun _ _ _ h => h) (Or.inr ⟨by rfl, rfl⟩) (by assumption) ?_
                try simp only [List.getElem_toArray, List.getElem_cons_succ, List.getElem_cons_zero, Act.put, List.setIfInBounds_toArray, List.set_cons_zero, List.set_cons_succ]
                refine wpAnyH_take (i := 12) (v := undef) rfl (by kernel_rfl) (by kernel_rfl) (by kernel_rfl) (fun _ _ _ h => h) (Or.inr ⟨by rfl, rfl⟩) (by assumption) ?_
                try simp only [List.getElem_toArray, List.getElem_cons_succ, List.getElem_cons_zero, Act.put, List.setIfInBounds_toArray, List.set_cons_zero, List.set_cons_succ]
                refine wpAnyH_take (i := 13) (v := undef) rfl (by kernel_rfl) (by kernel_rfl) (by kernel_rfl) (fun _ _ _ h => h) (Or.inr ⟨by rfl, rfl⟩) (by assumption) ?_
                try simp only [List.getElem_toArray, List.getElem_cons_succ, List.getElem_cons_zero, Act.put, List.setIfInBounds_toArray, List.set_cons_zero, List.set_cons_succ]
                refine wpAnyH_take (i := 14) (v := ?vwc14) rfl (by kernel_rfl) (by kernel_rfl) (by kernel_rfl) (fun _ _ _ h => h) (Or.inl ⟨by rfl, ?hywc14⟩) (by assumption) ?restwc14
                case hywc14 => (intro w hSw; (try dsimp only at hSw); go_simp <;> with_reducible rfl)
                try simp only [List.getElem_toArray, List.getElem_cons_succ, List.getElem_cons_zero, Act.put, List.setIfInBounds_toArray, List.set_cons_zero, List.set_cons_succ]
                refine wpAnyH_done (by kernel_rfl) ?_ _
                go_wp2_with fail
                refine (works7_any _).mono ?_
                rintro y wz ⟨rfl, bz⟩
                have HBZ := Lib.hid (Trm.go (Trm.go H10.out.bel HB0.out) bz)
                clear bz
                go_wp2_with fail
                go_ret
                exact ⟨rfl, HBZ.out⟩
          · refine wp_region_held_drew (S := fun w' => w'.cell? ⟨c9, 3, none⟩ = some (.int .u8 t.k) ∧ w'.cell? ⟨c9, 4, none⟩ = some (.int .i64 t.n) ∧ w'.cell? ⟨c9, 5, none⟩ = some (.string t.s) ∧ w'.cell? ⟨c9, 6, none⟩ = some (.slice h9.ty.lo t.ls.length h9.ty.lc) ∧ w'.cell? ⟨c9, 7, none⟩ = some (.slice h9.ty.to t.ts.length h9.ty.tc)) (by kernel_rfl) (HCT.out _ HB0.out) (fun hHeld => ?_)
            refine wpAnyH_take (i := 0) (v := ?vwd0) rfl (by kernel_rfl) (by kernel_rfl) (by kernel_rfl) (fun _ _ _ h => h) (Or.inl ⟨by rfl, ?hywd0⟩) (by assumption) ?restwd0
            case hywd0 => (intro w hSw; (try dsimp only at hSw); go_simp <;> with_reducible rfl)
            try simp only [List.getElem_toArray, List.getElem_cons_zero, Act.put, List.setIfInBounds_toArray, List.set_cons_zero, List.set_cons_succ]
            refine wpAnyH_take (i := 1) (v := ?vwd1) rfl (by kernel_rfl) (by kernel_rfl) (by kernel_rfl) (fun _ _ _ h => h) (Or.inl ⟨by rfl, ?hywd1⟩) (by assumption) ?restwd1
            case hywd1 => (intro w hSw; (try dsimp only at hSw); go_simp <;> with_reducible rfl)
            try simp only [List.getElem_toArray, List.getElem_cons_succ, List.getElem_cons_zero, Act.put, List.setIfInBounds_toArray, List.set_cons_zero, List.set_cons_succ]
            refine wpAnyH_take (i := 2) (v := undef) rfl (by kernel_rfl) (by kernel_rfl) (by kernel_rfl) (fun _ _ _ h => h) (Or.inr ⟨by rfl, rfl⟩) (by assumption) ?_
            try simp only [List.getElem_toArray, List.getElem_cons_succ, List.getElem_cons_zero, Act.put, List.setIfInBounds_toArray, List.set_cons_zero, List.set_cons_succ]
            refine wpAnyH_take (i := 3) (v := undef) rfl (by kernel_rfl) (by kernel_rfl) (by kernel_rfl) (fun _ _ _ h => h) (Or.inr ⟨by rfl, rfl⟩) (by assumption) ?_
            try simp only [List.getElem_toArray, List.getElem_cons_succ, List.getElem_cons_zero, Act.put, List.setIfInBounds_toArray, List.set_cons_zero, List.set_cons_succ]
            refine wpAnyH_take (i := 4) (v := ?vwd4) rfl (by kernel_rfl) (by kernel_rfl) (by kernel_rfl) (fun _ _ _ h => h) (Or.inl ⟨by rfl, ?hywd4⟩) (by assumption) ?restwd4
            case hywd4 => (intro w hSw; (try dsimp only at hSw); go_simp <;> with_reducible rfl)
            try simp only [List.getElem_toArray, List.getElem_cons_succ, List.getElem_cons_zero, Act.put, List.setIfInBounds_toArray, List.set_cons_zero, List.set_cons_succ]
            refine wpAnyH_take (i := 5) (v := ?vwd5) rfl (by kernel_rfl) (by kernel_rfl) (by kernel_rfl) (fun _ _ _ h => h) (Or.inl ⟨by rfl, ?hywd5⟩) (by assumption) ?restwd5
            case hywd5 => (intro w hSw; (try dsimp only at hSw); go_simp <;> with_reducible rfl)
            try simp only [List.getElem_toArray, List.getElem_cons_succ, List.getElem_cons_zero, Act.put, List.setIfInBounds_toArray, List.set_cons_zero, List.set_cons_succ]
            refine wpAnyH_take (i := 6) (v := undef) rfl (by kernel_rfl) (by kernel_rfl) (by kernel_rfl) (fun _ _ _ h => h) (Or.inr ⟨by rfl, rfl⟩) (by assumption) ?_
            try simp only [List.getElem_toArray, List.getElem_cons_succ, List.getElem_cons_zero, Act.put, List.setIfInBounds_toArray, List.set_cons_zero, List.set_cons_succ]
            refine wpAnyH_take (i := 7) (v := ?vwd7) rfl (by kernel_rfl) (by kernel_rfl) (by kernel_rfl) (fun _ _ _ h => h) (Or.inl ⟨by rfl, ?hywd7⟩) (by assumption) ?restwd7
            case hywd7 => (intro w hSw; (try dsimp only at hSw); go_simp <;> with_reducible rfl)
            try simp only [List.getElem_toArray, List.getElem_cons_succ, List.getElem_cons_zero, Act.put, List.setIfInBounds_toArray, List.set_cons_zero, List.set_cons_succ]
            refine wpAnyH_take (i := 8) (v := ?vwd8) rfl (by kernel_rfl) (by kernel_rfl) (by kernel_rfl) (fun _ _ _ h => h) (Or.inl ⟨by rfl, ?hywd8⟩) (by assumption) ?restwd8
            case hywd8 => (intro w hSw; (try dsimp only at hSw); go_simp <;> with_reducible rfl)
            try simp only [List.getElem_toArray, List.getElem_cons_succ, List.getElem_cons_zero, Act.put, List.setIfInBounds_toArray, List.set_cons_zero, List.set_cons_succ]
            refine wpAnyH_take (i := 9) (v := undef) rfl (by kernel_rfl) (by kernel_rfl) (by kernel_rfl) (fun _ _ _ h => h) (Or.inr ⟨by rfl, rfl⟩) (by assumption) ?_
            try simp only [List.getElem_toArray, List.getElem_cons_succ, List.getElem_cons_zero, Act.put, List.setIfInBounds_toArray, List.set_cons_zero, List.set_cons_succ]
            refine wpAnyH_take (i := 10) (v := undef) rfl (by kernel_rfl) (by kernel_rfl) (by kernel_rfl) (fun _ _ _ h => h) (Or.inr ⟨by rfl, rfl⟩) (by assumption) ?_
            try simp only [List.getElem_toArray, List.getElem_cons_succ, List.getElem_cons_zero, Act.put, List.setIfInBounds_toArray, List.set_cons_zero, List.set_cons_succ]
            refine wpAnyH_take (i := 11) (v := undef) rfl (by kernel_rfl) (by kernel_rfl) (by kernel_rfl) (fun _ _ _ h => h) (Or.inr ⟨by rfl, rfl⟩) (by assumption) ?_
            try simp only [List.getElem_toArray, List.getElem_cons_succ, List.getElem_cons_zero, Act.put, List.setIfInBounds_toArray, List.set_cons_zero, List.set_cons_succ]
            refine wpAnyH_take (i := 12) (v := undef) rfl (by kernel_rfl) (by kernel_rfl) (by kernel_rfl) (fun _ _ _ h => h) (Or.inr ⟨by rfl, rfl⟩) (by assumption) ?_
            try simp only [List.getElem_toArray, List.getElem_cons_succ, List.getElem_cons_zero, Act.put, List.setIfInBounds_toArray, List.set_cons_zero, List.set_cons_succ]
            refine wpAnyH_take (i := 13) (v := undef) rfl (by kernel_rfl) (by kernel_rfl) (by kernel_rfl) (fun _ _ _ h => h) (Or.inr ⟨by rfl, rfl⟩) (by assumption) ?_
            try simp only [List.getElem_toArray, List.getElem_cons_succ, List.getElem_cons_zero, Act.put, List.setIfInBounds_toArray, List.set_cons_zero, List.set_cons_succ]
            refine wpAnyH_take (i := 14) (v := ?vwd14) rfl (by kernel_rfl) (by kernel_rfl) (by kernel_rfl) (fun _ _ _ h => h) (Or.inl ⟨by rfl, ?hywd14⟩) (by assumption) ?restwd14
            case hywd14 => (intro w hSw; (try dsimp only at hSw); go_simp <;> with_reducible rfl)
            try simp only [List.getElem_toArray, List.getElem_cons_succ, List.getElem_cons_zero, Act.put, List.setIfInBounds_toArray, List.set_cons_zero, List.set_cons_succ]
            refine wpAnyH_done (by kernel_rfl) ?_ _
            go_wp2_with fail
            refine (works7_any _).mono ?_
            rintro y wz ⟨rfl, bz⟩
            have HBZ := Lib.hid (Trm.go (Trm.go H10.out.bel HB0.out) bz)
            clear bz
            go_wp2_with fail
            go_ret
            exact ⟨rfl, HBZ.out⟩
end Go.Proofs.YtkbamiheclakmaaGreat


