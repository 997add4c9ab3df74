/-
  EnvStays: what was added is found as it was, whatever is added behind it.
-/
import Derived.Test.YtkbamiheclakmaaGreatQEnvStaysM
import Derived.Test.YtkbamiheclakmaaGreatQB13
import Derived.Test.YtkbamiheclakmaaGreatQB7
namespace Go.Proofs.YtkbamiheclakmaaGreat
open Go.RowKit Go.Shelf Go.Maps Lvl Trm Env

namespace Env
theorem St.start {w0 w : World} (hb : Below w0.heap.size w0 w) : ∃ P, St w0 (w.alloc (.cells #[.map none, .slice none 0 0] 88)) P w.heap.size [] none (.slice none 0 0) (.slice none 0 0) [] := by
  have h := WS.new hb
  exact ⟨_, h.env, h.base, h.bel, InRow.nil, fun q hq => by simp [Value.ownBlock] at hq, fun p hp => by simp at hp⟩
def StyRel (w0 : World) (l : List Inf) (e : Nat) (vin vi : Value) (wr : World) : Prop := ∃ (k : Nat) (M : List Ent) (P : Nat → Prop) (mo : Option Nat) (v : Value) (ps : List (Inf × IHd)), vi = .int .i64 k ∧ k ≤ l.length ∧ ps.length ≤ k ∧ ps.map (·.1) = M.map (·.2.1) ∧ St w0 wr P e M mo v vin ps
def StyIn (w0 : World) (P : Nat → Prop) (e : Nat) (M : List Ent) (mo : Option Nat) (v vin : Value) (ps : List (Inf × IHd)) (vi : Value) (wr : World) : Prop := ∃ j : Nat, vi = .int .i64 j ∧ j ≤ ps.length ∧ St w0 wr P e M mo v vin ps
theorem FdPost.form {P : Nat → Prop} {L : List Ent} {k : List UInt8} {w w' : World} {y : Ending} (a : FdPost P L k w y w') : ∃ (z : Inf) (hz : IHd) (b : Bool), y = .returned (.tuple #[.agg (z.vals hz).toArray, .bool b]) ∧ Below w.heap.size w w' := by
  obtain ⟨b, ⟨_, h1⟩ | ⟨q, hd, _, h2, _⟩⟩ := a
  · exact ⟨zI, zIHd, false, h1, b⟩
  · exact ⟨_, hd, true, h2, b⟩
theorem same_get {M : List Ent} {ps : List (Inf × IHd)} (h : ps.map (·.1) = M.map (·.2.1)) {j : Nat} (hj : j < ps.length) : ∃ hm : j < M.length, ps[j].1 = M[j].2.1 := by
  have hl : ps.length = M.length := by have := congrArg List.length h; simpa using this
  refine ⟨by omega, ?_⟩
  have h1 : (ps.map (·.1))[j]? = (M.map (·.2.1))[j]? := by rw [h]
  rw [List.getElem?_map, List.getElem?_map, List.getElem?_eq_getElem hj, List.getElem?_eq_getElem (by omega)] at h1
  simpa using h1
theorem same_len {M : List Ent} {ps : List (Inf × IHd)} (h : ps.map (·.1) = M.map (·.2.1)) : M.length = ps.length := by have := congrArg List.length h; simpa using this.symm
/-- The j-th is found by its name. -/
theorem St.look {w0 W : World} {P : Nat → Prop} {e : Nat} {M : List Ent} {mo : Option Nat} {v vin : Value} {ps : List (Inf × IHd)} (h : St w0 W P e M mo v vin ps) (hs : ps.map (·.1) = M.map (·.2.1)) {j : Nat} (hj : j < ps.length) : ∃ p ∈ M, lookE M (key ps[j].1.name) = some p ∧ p.2.1 = ps[j].1 := by
  obtain ⟨hm, e⟩ := same_get hs hj
  refine ⟨M[j], List.getElem_mem hm, ?_, e.symm⟩
  rw [e]
  exact lookE_nodup h.env.env.nodup j hm
end Env

set_option maxRecDepth 100000 in
set_option maxHeartbeats 32000000 in
theorem law_env_stays (l : List Inf) (lo : Option Addr) (lc : Nat) (w : World) (hrow : InfRow w.heap.size w lo l) :
    Calls Tryz.prog 4 #[.slice lo l.length lc] w fun e w' => e = .returned (.bool true) ∧ Below w.heap.size w w' := by
  have HROW := Lib.hid hrow
  clear hrow
  have HKR : ∀ {x : Inf} {h : IHd}, Hid ((Tryz.prog.info? 46).map (·.size) = some (x.vals h).toArray.size) := fun {x h} => Lib.hid infoInf
  have HKL : ∀ {x : Inf} {h : IHd}, Hid ((Tryz.prog.info? 46).map (·.size) = some (x.vals h).length) := fun {x h} => Lib.hid infoInf
  have HKZ : Hid (∀ (x : Inf) (h : IHd), Inf.zeros.size = (x.vals h).toArray.size) := Lib.hid (fun _ _ => rfl)
  have HKO : Hid (∀ (x : Inf) (h : IHd), (x.vals h).toArray.all (·.oneCell') = true) := Lib.hid (fun x h => vals_one x h)
  have HKS : Hid (∀ (x : Inf) (h : IHd), ∀ u ∈ x.vals h, u.oneCell' = true) := Lib.hid (fun x h u hu => by have := vals_one x h; rw [List.all_toArray, List.all_eq_true] at this; exact this u hu)
  go_enter Tryz.func4, Tryz.ntmps4
  go_wp2_with fail
  refine (few_any l lo lc w HROW.out).mono ?_
  rintro y w1 ⟨b, rfl, hfew, b1⟩
  have HFEW := Lib.hid hfew
  have HB1 := Lib.hid b1
  clear b1 hfew
  cases b
  · go_wp2_with fail
    refine (works7_any _).mono ?_
    rintro y wz ⟨rfl, bz⟩
    have HBZ := Lib.hid (Trm.go HB1.out bz)
    clear bz
    go_wp2_with fail
    go_ret
    exact ⟨rfl, HBZ.out⟩
  · have HF := Lib.hid (HFEW.out rfl)
    clear HFEW
    go_wp2_with fail
    refine (envNew_any _).mono ?_
    rintro y w2 ⟨rfl, hw2⟩
    obtain ⟨P0, hst0⟩ := St.start HB1.out
    rw [← hw2] at hst0
    obtain ⟨e, he⟩ : ∃ e, e = w1.heap.size := ⟨_, rfl⟩
    rw [← he] at hst0 ⊢
    have H0 : Hid (StyRel w l e (.slice none 0 0) (.int .i64 (0 : Nat)) w2) := Lib.hid ⟨0, [], P0, none, _, [], rfl, by omega, by simp, rfl, hst0⟩
    clear hw2 hst0 he
    go_upto_region 6 with fail
    go_loopw [4, 5] (fun vin vi wr => StyRel w l e vin vi wr) (fun _ i _ => l.length - (intOf i).toNat)
    case atStart => exact H0.out
    case round =>
      obtain ⟨k, M, P, mo, v, ps, rfl, hk, hpk, hsame, hst⟩ := hrel
      obtain ⟨av, cv, hvin⟩ := hst.inr.form
      subst hvin
      have H0 := Lib.hid hst
      have HSAME := Lib.hid hsame
      have HPK := Lib.hid hpk
      clear hst hsame hpk
      by_cases hlt : k < l.length
      · obtain ⟨b, off, hd, hlo, hb, hrg, hin⟩ := HROW.out.place k hlt
        subst hlo
        obtain ⟨x, hx⟩ : ∃ x, x = l[k] := ⟨_, rfl⟩
        rw [← hx] at hrg hin
        have HX20 : Hid (x.rules.length ≤ 20) := Lib.hid (hx ▸ (HF.out.2 _ (List.getElem_mem hlt)).1)
        have HLL : Hid (l.length ≤ 40) := Lib.hid HF.out.1
        have HRG := Lib.hid (fun (W : World) (hW : Below w.heap.size w W) => range_below hrg hW hb)
        have HIN := Lib.hid hin
        have HNS : Hid (x.name.size ≤ maxLen) := Lib.hid (by have := hin.fit.name; unfold maxLen; omega)
        have HLT := Lib.hid hlt
        have hwk : wrap64 ((k : Int) + 1) = (k : Int) + 1 := IntWalk.wrap64_in _ (by have := HLL.out; omega)
        have hwk2 : IntKind.i64.wrap ((k : Int) + 1) = (k : Int) + 1 := IntWalk.i64_in _ (by have := HLL.out; omega)
        clear hrg hin hx hb
        have hr0 := HRG.out wr H0.out.bel
        go_wp2_with (first
          | (refine wpList_load_mid rfl 46 (.tmp 27) rfl b (off + k * 25) rfl (x.vals hd) _ hr0 Tryz.underlying46 rfl HKL.out ?_)
          | (refine Go.Great.wpList_buildSliceTo rfl 22 46 1 _ rfl wr.heap.size rfl (some 29) rfl Tryz.underlying22 (x.vals hd).toArray (by kernel_rfl) ?_))
        clear hr0
        refine (H0.out.add HIN.out HX20.out).mono ?_
        rintro y w3 ⟨rfl, M', mo', v', P', hyes, hno, hst3⟩
        have H3 := Lib.hid hst3
        clear hst3 H0
        have n3 : w3.cell? ⟨b, off + k * 25 + 1, none⟩ = some (.string x.name) := HRG.out w3 H3.out.bel 1 _ rfl
        by_cases h0 : addA M [x] = 0
        · obtain ⟨bE, hE, hM'⟩ := hyes h0
          subst hM'
          obtain ⟨_, hnew⟩ := addA_wrong h0
          have HLAST : Hid (lookE (M ++ [(bE, fixI M x, hE)]) (key x.name) = some (bE, fixI M x, hE)) := Lib.hid (lookE_last (q := (bE, fixI M x, hE)) hnew)
          rw [h0]
          clear hyes hno h0 hnew
          go_wp2_with fail
          refine (findP_any H3.out.env _ HNS.out H3.out.hold).mono ?_
          intro y w4 hfd
          obtain ⟨hF, rfl, hfF, b4⟩ := hfd.yes HLAST.out
          have H4 := Lib.hid (H3.out.below b4)
          have HFF := Lib.hid hfF
          clear hfd hfF b4 H3 n3 HLAST
          dsimp only
          obtain ⟨z, hz⟩ : ∃ z, z = fixI M x := ⟨_, rfl⟩
          have HZ : Hid (z = fixI M x ∧ z.kind = x.kind ∧ z.name = x.name ∧ z.ty = x.ty ∧ (x.kind = 2 → z.va = x.va)) := Lib.hid ⟨hz, by rw [hz]; rfl, by rw [hz]; rfl, by rw [hz]; rfl, fun h => by rw [hz]; simp [fixI, Inf.hv, h]⟩
          rw [← hz] at HFF ⊢
          clear hz
          go_upto_region 10 with (refine wpList_store_row rfl 46 (.tmp 7) (.tmp 39) rfl w4.heap.size _ rfl rfl 46 Inf.zeros (World.alloc_heap_new _ _) HKR.out (HKZ.out _ _) (HKO.out _ _) ?_)
          rw [World.setRow_alloc_new]
          obtain ⟨W5, hW5⟩ : ∃ W, W = w4.alloc (.cells (z.vals hF).toArray 46) := ⟨_, rfl⟩
          have hb5 : Below w4.heap.size w4 W5 := hW5 ▸ below_one _ _
          have H5 := Lib.hid (H4.out.below hb5)
          have HF5 := Lib.hid (HFF.out.step (RanS.of_below hb5))
          have HX5 := Lib.hid (show IBox W5 w4.heap.size z hF from hW5 ▸ World.alloc_heap_new _ _)
          obtain ⟨bX, hbX⟩ : ∃ b, b = w4.heap.size := ⟨_, rfl⟩
          have HBX : Hid (bX < W5.heap.size ∧ ∀ q, P' q → q ≠ bX) := Lib.hid ⟨by rw [hbX, hW5, World.size_alloc]; omega, fun q hq => by have := H4.out.env.lt q hq; omega⟩
          rw [← hbX] at HX5
          rw [← hW5, ← hbX]
          clear hW5 hbX hb5 H4 HFF
          have HC := Lib.hid (fun (W : World) (hW : Below W5.heap.size W5 W) => (⟨by rw [← HZ.out.2.1]; exact (HX5.out.keep hW).cell 0, by rw [← HZ.out.2.2.1]; exact (HX5.out.keep hW).cell 1, (by obtain ⟨q0, q1, q2, q3, q4⟩ := (HX5.out.keep hW).ty; rw [HZ.out.2.2.2.1] at q0 q1 q2 q3 q4; exact ⟨q0, q1, q2, q3, q4⟩), HRG.out W (Trm.go H5.out.bel hW) 0 _ rfl, HRG.out W (Trm.go H5.out.bel hW) 1 _ rfl, HRG.out W (Trm.go H5.out.bel hW) 3 _ rfl, HRG.out W (Trm.go H5.out.bel hW) 4 _ rfl, HRG.out W (Trm.go H5.out.bel hW) 5 _ rfl, HRG.out W (Trm.go H5.out.bel hW) 6 _ rfl, HRG.out W (Trm.go H5.out.bel hW) 7 _ rfl⟩ : W.cell? ⟨bX, 0, none⟩ = some (.int .u8 x.kind) ∧ W.cell? ⟨bX, 1, none⟩ = some (.string x.name) ∧ (W.cell? ⟨bX, 3, none⟩ = some (.int .u8 x.ty.k) ∧ W.cell? ⟨bX, 4, none⟩ = some (.int .i64 x.ty.n) ∧ W.cell? ⟨bX, 5, none⟩ = some (.string x.ty.s) ∧ W.cell? ⟨bX, 6, none⟩ = some (.slice hF.ty.lo x.ty.ls.length hF.ty.lc) ∧ W.cell? ⟨bX, 7, none⟩ = some (.slice hF.ty.to x.ty.ts.length hF.ty.tc)) ∧ W.cell? ⟨b, off + k * 25, none⟩ = some (.int .u8 x.kind) ∧ W.cell? ⟨b, off + k * 25 + 1, none⟩ = some (.string x.name) ∧ W.cell? ⟨b, off + k * 25 + 3, none⟩ = some (.int .u8 x.ty.k) ∧ W.cell? ⟨b, off + k * 25 + 4, none⟩ = some (.int .i64 x.ty.n) ∧ W.cell? ⟨b, off + k * 25 + 5, none⟩ = some (.string x.ty.s) ∧ W.cell? ⟨b, off + k * 25 + 6, none⟩ = some (.slice hd.ty.lo x.ty.ls.length hd.ty.lc) ∧ W.cell? ⟨b, off + k * 25 + 7, none⟩ = some (.slice hd.ty.to x.ty.ts.length hd.ty.tc)))
          have HS1 := Lib.hid (fun (W : World) (hW : Below W5.heap.size W5 W) => (show Calls Tryz.prog 28 #[x.ty.val hF.ty, x.ty.val hd.ty] W (fun e w' => e = .returned (.bool true) ∧ Below W.heap.size W w') from (same_iff.2 rfl : same x.ty x.ty = true) ▸ RefSame_any x.ty x.ty hF.ty hd.ty W (by have := (HF5.out.step (RanS.of_below hW)).ty.here; rw [HZ.out.2.2.2.1] at this; exact this) (Inf.carry HIN.out (Trm.go H5.out.bel hW)).ty))
          unfold Tm.val Tm.vals at HS1
          have HB0 : Hid (Below W5.heap.size W5 W5.drew) := Lib.hid (Below.refl _ _).drew
          go_wp2_with fail
          by_cases hk2 : x.kind = 2
          · have HKK := Lib.hid hk2
            have HC2 := Lib.hid (fun (W : World) (hW : Below W5.heap.size W5 W) => ((by obtain ⟨q0, q1, q2, q3, q4⟩ := (HX5.out.keep hW).va; rw [HZ.out.2.2.2.2 HKK.out] at q0 q1 q2 q3 q4; exact ⟨q0, q1, q2, q3, q4, HRG.out W (Trm.go H5.out.bel hW) 8 _ rfl, HRG.out W (Trm.go H5.out.bel hW) 9 _ rfl, HRG.out W (Trm.go H5.out.bel hW) 10 _ rfl, HRG.out W (Trm.go H5.out.bel hW) 11 _ rfl, HRG.out W (Trm.go H5.out.bel hW) 12 _ rfl⟩) : W.cell? ⟨bX, 8, none⟩ = some (.int .u8 x.va.k) ∧ W.cell? ⟨bX, 9, none⟩ = some (.int .i64 x.va.n) ∧ W.cell? ⟨bX, 10, none⟩ = some (.string x.va.s) ∧ W.cell? ⟨bX, 11, none⟩ = some (.slice hF.va.lo x.va.ls.length hF.va.lc) ∧ W.cell? ⟨bX, 12, none⟩ = some (.slice hF.va.to x.va.ts.length hF.va.tc) ∧ W.cell? ⟨b, off + k * 25 + 8, none⟩ = some (.int .u8 x.va.k) ∧ W.cell? ⟨b, off + k * 25 + 9, none⟩ = some (.int .i64 x.va.n) ∧ W.cell? ⟨b, off + k * 25 + 10, none⟩ = some (.string x.va.s) ∧ W.cell? ⟨b, off + k * 25 + 11, none⟩ = some (.slice hd.va.lo x.va.ls.length hd.va.lc) ∧ W.cell? ⟨b, off + k * 25 + 12, none⟩ = some (.slice hd.va.to x.va.ts.length hd.va.tc)))
            have HS2 := Lib.hid (fun (W : World) (hW : Below W5.heap.size W5 W) => (show Calls Tryz.prog 28 #[x.va.val hF.va, x.va.val hd.va] W (fun e w' => e = .returned (.bool true) ∧ Below W.heap.size W w') from (same_iff.2 rfl : same x.va x.va = true) ▸ RefSame_any x.va x.va hF.va hd.va W (by have := (HF5.out.step (RanS.of_below hW)).va.here; rw [HZ.out.2.2.2.2 HKK.out] at this; exact this) (Inf.carry HIN.out (Trm.go H5.out.bel hW)).va))
            unfold Tm.val Tm.vals at HS2
            have hkb : (x.kind == 2) = true := by simp [hk2]
            clear hk2
            refine wp_region_held_drew (S := fun w' => w'.cell? ⟨bX, 0, none⟩ = some (.int .u8 x.kind) ∧ w'.cell? ⟨bX, 1, none⟩ = some (.string x.name) ∧ w'.cell? ⟨bX, 3, none⟩ = some (.int .u8 x.ty.k) ∧ w'.cell? ⟨bX, 4, none⟩ = some (.int .i64 x.ty.n) ∧ w'.cell? ⟨bX, 5, none⟩ = some (.string x.ty.s) ∧ w'.cell? ⟨bX, 6, none⟩ = some (.slice hF.ty.lo x.ty.ls.length hF.ty.lc) ∧ w'.cell? ⟨bX, 7, none⟩ = some (.slice hF.ty.to x.ty.ts.length hF.ty.tc) ∧ w'.cell? ⟨b, off + k * 25, none⟩ = some (.int .u8 x.kind) ∧ w'.cell? ⟨b, off + k * 25 + 1, none⟩ = some (.string x.name) ∧ w'.cell? ⟨b, off + k * 25 + 3, none⟩ = some (.int .u8 x.ty.k) ∧ w'.cell? ⟨b, off + k * 25 + 4, none⟩ = some (.int .i64 x.ty.n) ∧ w'.cell? ⟨b, off + k * 25 + 5, none⟩ = some (.string x.ty.s) ∧ w'.cell? ⟨b, off + k * 25 + 6, none⟩ = some (.slice hd.ty.lo x.ty.ls.length hd.ty.lc) ∧ w'.cell? ⟨b, off + k * 25 + 7, none⟩ = some (.slice hd.ty.to x.ty.ts.length hd.ty.tc) ∧ w'.cell? ⟨bX, 8, none⟩ = some (.int .u8 x.va.k) ∧ w'.cell? ⟨bX, 9, none⟩ = some (.int .i64 x.va.n) ∧ w'.cell? ⟨bX, 10, none⟩ = some (.string x.va.s) ∧ w'.cell? ⟨bX, 11, none⟩ = some (.slice hF.va.lo x.va.ls.length hF.va.lc) ∧ w'.cell? ⟨bX, 12, none⟩ = some (.slice hF.va.to x.va.ts.length hF.va.tc) ∧ w'.cell? ⟨b, off + k * 25 + 8, none⟩ = some (.int .u8 x.va.k) ∧ w'.cell? ⟨b, off + k * 25 + 9, none⟩ = some (.int .i64 x.va.n) ∧ w'.cell? ⟨b, off + k * 25 + 10, none⟩ = some (.string x.va.s) ∧ w'.cell? ⟨b, off + k * 25 + 11, none⟩ = some (.slice hd.va.lo x.va.ls.length hd.va.lc) ∧ w'.cell? ⟨b, off + k * 25 + 12, none⟩ = some (.slice hd.va.to x.va.ts.length hd.va.tc)) (by kernel_rfl) ((by obtain ⟨q0, q1, ⟨q2, q3, q4, q5, q6⟩, q7⟩ := HC.out _ HB0.out; obtain ⟨r0, r1, r2, r3, r4, r5⟩ := HC2.out _ HB0.out; exact ⟨q0, q1, q2, q3, q4, q5, q6, q7.1, q7.2.1, q7.2.2.1, q7.2.2.2.1, q7.2.2.2.2.1, q7.2.2.2.2.2.1, q7.2.2.2.2.2.2, r0, r1, r2, r3, r4, r5⟩)) (fun hHeld => ?_)
            refine wpAnyH_take (i := 0) (v := ?vra0) rfl (by kernel_rfl) (by kernel_rfl) (by kernel_rfl) (fun _ _ _ h => h) (Or.inl ⟨by rfl, ?hyra0⟩) (by assumption) ?restra0
            case hyra0 => (intro w hSw; (try dsimp only at hSw); go_simp <;> with_reducible rfl)
            try simp only [List.getElem_toArray, List.getElem_cons_zero, Act.put, List.setIfInBounds_toArray, List.set_cons_zero, List.set_cons_succ]
            refine wpAnyH_take (i := 1) (v := ?vra1) rfl (by kernel_rfl) (by kernel_rfl) (by kernel_rfl) (fun _ _ _ h => h) (Or.inl ⟨by rfl, ?hyra1⟩) (by assumption) ?restra1
            case hyra1 => (intro w hSw; (try dsimp only at hSw); go_simp <;> with_reducible rfl)
            try simp only [List.getElem_toArray, List.getElem_cons_succ, List.getElem_cons_zero, Act.put, List.setIfInBounds_toArray, List.set_cons_zero, List.set_cons_succ]
            refine wpAnyH_take (i := 2) (v := ?vra2) rfl (by kernel_rfl) (by kernel_rfl) (by kernel_rfl) (fun _ _ _ h => h) (Or.inl ⟨by rfl, ?hyra2⟩) (by assumption) ?restra2
            case hyra2 => (intro w hSw; (try dsimp only at hSw); go_simp <;> with_reducible rfl)
            try simp only [List.getElem_toArray, List.getElem_cons_succ, List.getElem_cons_zero, Act.put, List.setIfInBounds_toArray, List.set_cons_zero, List.set_cons_succ]
            refine wpAnyH_take (i := 3) (v := ?vra3) rfl (by kernel_rfl) (by kernel_rfl) (by kernel_rfl) (fun _ _ _ h => h) (Or.inl ⟨by rfl, ?hyra3⟩) (by assumption) ?restra3
            case hyra3 => (intro w hSw; (try dsimp only at hSw); go_simp <;> with_reducible rfl)
            try simp only [List.getElem_toArray, List.getElem_cons_succ, List.getElem_cons_zero, Act.put, List.setIfInBounds_toArray, List.set_cons_zero, List.set_cons_succ]
            refine wpAnyH_take (i := 4) (v := ?vra4) rfl (by kernel_rfl) (by kernel_rfl) (by kernel_rfl) (fun _ _ _ h => h) (Or.inl ⟨by rfl, ?hyra4⟩) (by assumption) ?restra4
            case hyra4 => (intro w hSw; (try dsimp only at hSw); go_simp <;> with_reducible rfl)
            try simp only [List.getElem_toArray, List.getElem_cons_succ, List.getElem_cons_zero, Act.put, List.setIfInBounds_toArray, List.set_cons_zero, List.set_cons_succ]
            refine wpAnyH_take (i := 5) (v := ?vra5) rfl (by kernel_rfl) (by kernel_rfl) (by kernel_rfl) (fun _ _ _ h => h) (Or.inl ⟨by rfl, ?hyra5⟩) (by assumption) ?restra5
            case hyra5 => (intro w hSw; (try dsimp only at hSw); go_simp <;> with_reducible rfl)
            try simp only [List.getElem_toArray, List.getElem_cons_succ, List.getElem_cons_zero, Act.put, List.setIfInBounds_toArray, List.set_cons_zero, List.set_cons_succ]
            refine wpAnyH_take (i := 6) (v := ?vra6) rfl (by kernel_rfl) (by kernel_rfl) (by kernel_rfl) (fun _ _ _ h => h) (Or.inl ⟨by rfl, ?hyra6⟩) (by assumption) ?restra6
            case hyra6 => (intro w hSw; (try dsimp only at hSw); go_simp <;> with_reducible rfl)
            try simp only [List.getElem_toArray, List.getElem_cons_succ, List.getElem_cons_zero, Act.put, List.setIfInBounds_toArray, List.set_cons_zero, List.set_cons_succ]
            refine wpAnyH_take (i := 7) (v := ?vra7) rfl (by kernel_rfl) (by kernel_rfl) (by kernel_rfl) (fun _ _ _ h => h) (Or.inl ⟨by rfl, ?hyra7⟩) (by assumption) ?restra7
            case hyra7 => (intro w hSw; (try dsimp only at hSw); go_simp <;> with_reducible rfl)
            try simp only [List.getElem_toArray, List.getElem_cons_succ, List.getElem_cons_zero, Act.put, List.setIfInBounds_toArray, List.set_cons_zero, List.set_cons_succ]
            refine wpAnyH_take (i := 8) (v := ?vra8) rfl (by kernel_rfl) (by kernel_rfl) (by kernel_rfl) (fun _ _ _ h => h) (Or.inl ⟨by rfl, ?hyra8⟩) (by assumption) ?restra8
            case hyra8 => (intro w hSw; (try dsimp only at hSw); go_simp <;> with_reducible rfl)
            try simp only [List.getElem_toArray, List.getElem_cons_succ, List.getElem_cons_zero, Act.put, List.setIfInBounds_toArray, List.set_cons_zero, List.set_cons_succ]
            refine wpAnyH_take (i := 9) (v := ?vra9) rfl (by kernel_rfl) (by kernel_rfl) (by kernel_rfl) (fun _ _ _ h => h) (Or.inl ⟨by rfl, ?hyra9⟩) (by assumption) ?restra9
            case hyra9 => (intro w hSw; (try dsimp only at hSw); go_simp <;> with_reducible rfl)
            try simp only [List.getElem_toArray, List.getElem_cons_succ, List.getElem_cons_zero, Act.put, List.setIfInBounds_toArray, List.set_cons_zero, List.set_cons_succ]
            refine wpAnyH_take (i := 10) (v := ?vra10) rfl (by kernel_rfl) (by kernel_rfl) (by kernel_rfl) (fun _ _ _ h => h) (Or.inl ⟨by rfl, ?hyra10⟩) (by assumption) ?restra10
            case hyra10 => (intro w hSw; (try dsimp only at hSw); go_simp <;> with_reducible rfl)
            try simp only [List.getElem_toArray, List.getElem_cons_succ, List.getElem_cons_zero, Act.put, List.setIfInBounds_toArray, List.set_cons_zero, List.set_cons_succ]
            refine wpAnyH_take (i := 11) (v := ?vra11) rfl (by kernel_rfl) (by kernel_rfl) (by kernel_rfl) (fun _ _ _ h => h) (Or.inl ⟨by rfl, ?hyra11⟩) (by assumption) ?restra11
            case hyra11 => (intro w hSw; (try dsimp only at hSw); go_simp <;> with_reducible rfl)
            try simp only [List.getElem_toArray, List.getElem_cons_succ, List.getElem_cons_zero, Act.put, List.setIfInBounds_toArray, List.set_cons_zero, List.set_cons_succ]
            refine wpAnyH_take (i := 12) (v := ?vra12) rfl (by kernel_rfl) (by kernel_rfl) (by kernel_rfl) (fun _ _ _ h => h) (Or.inl ⟨by rfl, ?hyra12⟩) (by assumption) ?restra12
            case hyra12 => (intro w hSw; (try dsimp only at hSw); go_simp <;> with_reducible rfl)
            try simp only [List.getElem_toArray, List.getElem_cons_succ, List.getElem_cons_zero, Act.put, List.setIfInBounds_toArray, List.set_cons_zero, List.set_cons_succ]
            refine wpAnyH_take (i := 13) (v := ?vra13) rfl (by kernel_rfl) (by kernel_rfl) (by kernel_rfl) (fun _ _ _ h => h) (Or.inl ⟨by rfl, ?hyra13⟩) (by assumption) ?restra13
            case hyra13 => (intro w hSw; (try dsimp only at hSw); go_simp <;> with_reducible rfl)
            try simp only [List.getElem_toArray, List.getElem_cons_succ, List.getElem_cons_zero, Act.put, List.setIfInBounds_toArray, List.set_cons_zero, List.set_cons_succ]
            refine wpAnyH_take (i := 14) (v := ?vra14) rfl (by kernel_rfl) (by kernel_rfl) (by kernel_rfl) (fun _ _ _ h => h) (Or.inl ⟨by rfl, ?hyra14⟩) (by assumption) ?restra14
            case hyra14 => (intro w hSw; (try dsimp only at hSw); go_simp <;> with_reducible rfl)
            try simp only [List.getElem_toArray, List.getElem_cons_succ, List.getElem_cons_zero, Act.put, List.setIfInBounds_toArray, List.set_cons_zero, List.set_cons_succ]
            refine wpAnyH_take (i := 15) (v := ?vra15) rfl (by kernel_rfl) (by kernel_rfl) (by kernel_rfl) (fun _ _ _ h => h) (Or.inl ⟨by rfl, ?hyra15⟩) (by assumption) ?restra15
            case hyra15 => (intro w hSw; (try dsimp only at hSw); go_simp <;> with_reducible rfl)
            try simp only [List.getElem_toArray, List.getElem_cons_succ, List.getElem_cons_zero, Act.put, List.setIfInBounds_toArray, List.set_cons_zero, List.set_cons_succ]
            refine wpAnyH_take (i := 16) (v := ?vra16) rfl (by kernel_rfl) (by kernel_rfl) (by kernel_rfl) (fun _ _ _ h => h) (Or.inl ⟨by rfl, ?hyra16⟩) (by assumption) ?restra16
            case hyra16 => (intro w hSw; (try dsimp only at hSw); go_simp <;> with_reducible rfl)
            try simp only [List.getElem_toArray, List.getElem_cons_succ, List.getElem_cons_zero, Act.put, List.setIfInBounds_toArray, List.set_cons_zero, List.set_cons_succ]
            refine wpAnyH_take (i := 17) (v := ?vra17) rfl (by kernel_rfl) (by kernel_rfl) (by kernel_rfl) (fun _ _ _ h => h) (Or.inl ⟨by rfl, ?hyra17⟩) (by assumption) ?restra17
            case hyra17 => (intro w hSw; (try dsimp only at hSw); go_simp <;> with_reducible rfl)
            try simp only [List.getElem_toArray, List.getElem_cons_succ, List.getElem_cons_zero, Act.put, List.setIfInBounds_toArray, List.set_cons_zero, List.set_cons_succ]
            refine wpAnyH_take (i := 18) (v := ?vra18) rfl (by kernel_rfl) (by kernel_rfl) (by kernel_rfl) (fun _ _ _ h => h) (Or.inl ⟨by rfl, ?hyra18⟩) (by assumption) ?restra18
            case hyra18 => (intro w hSw; (try dsimp only at hSw); go_simp <;> with_reducible rfl)
            try simp only [List.getElem_toArray, List.getElem_cons_succ, List.getElem_cons_zero, Act.put, List.setIfInBounds_toArray, List.set_cons_zero, List.set_cons_succ]
            refine wpAnyH_take (i := 19) (v := ?vra19) rfl (by kernel_rfl) (by kernel_rfl) (by kernel_rfl) (fun _ _ _ h => h) (Or.inl ⟨by rfl, ?hyra19⟩) (by assumption) ?restra19
            case hyra19 => (intro w hSw; (try dsimp only at hSw); go_simp <;> with_reducible rfl)
            try simp only [List.getElem_toArray, List.getElem_cons_succ, List.getElem_cons_zero, Act.put, List.setIfInBounds_toArray, List.set_cons_zero, List.set_cons_succ]
            refine wpAnyH_take (i := 20) (v := ?vra20) rfl (by kernel_rfl) (by kernel_rfl) (by kernel_rfl) (fun _ _ _ h => h) (Or.inl ⟨by rfl, ?hyra20⟩) (by assumption) ?restra20
            case hyra20 => (intro w hSw; (try dsimp only at hSw); go_simp <;> with_reducible rfl)
            try simp only [List.getElem_toArray, List.getElem_cons_succ, List.getElem_cons_zero, Act.put, List.setIfInBounds_toArray, List.set_cons_zero, List.set_cons_succ]
            refine wpAnyH_take (i := 21) (v := ?vra21) rfl (by kernel_rfl) (by kernel_rfl) (by kernel_rfl) (fun _ _ _ h => h) (Or.inl ⟨by rfl, ?hyra21⟩) (by assumption) ?restra21
            case hyra21 => (intro w hSw; (try dsimp only at hSw); go_simp <;> with_reducible rfl)
            try simp only [List.getElem_toArray, List.getElem_cons_succ, List.getElem_cons_zero, Act.put, List.setIfInBounds_toArray, List.set_cons_zero, List.set_cons_succ]
            refine wpAnyH_take (i := 22) (v := ?vra22) rfl (by kernel_rfl) (by kernel_rfl) (by kernel_rfl) (fun _ _ _ h => h) (Or.inl ⟨by rfl, ?hyra22⟩) (by assumption) ?restra22
            case hyra22 => (intro w hSw; (try dsimp only at hSw); go_simp <;> with_reducible rfl)
            try simp only [List.getElem_toArray, List.getElem_cons_succ, List.getElem_cons_zero, Act.put, List.setIfInBounds_toArray, List.set_cons_zero, List.set_cons_succ]
            refine wpAnyH_take (i := 23) (v := ?vra23) rfl (by kernel_rfl) (by kernel_rfl) (by kernel_rfl) (fun _ _ _ h => h) (Or.inl ⟨by rfl, ?hyra23⟩) (by assumption) ?restra23
            case hyra23 => (intro w hSw; (try dsimp only at hSw); go_simp <;> with_reducible rfl)
            try simp only [List.getElem_toArray, List.getElem_cons_succ, List.getElem_cons_zero, Act.put, List.setIfInBounds_toArray, List.set_cons_zero, List.set_cons_succ]
            refine wpAnyH_take (i := 24) (v := ?vra24) rfl (by kernel_rfl) (by kernel_rfl) (by kernel_rfl) (fun _ _ _ h => h) (Or.inl ⟨by rfl, ?hyra24⟩) (by assumption) ?restra24
            case hyra24 => (intro w hSw; (try dsimp only at hSw); go_simp <;> with_reducible rfl)
            try simp only [List.getElem_toArray, List.getElem_cons_succ, List.getElem_cons_zero, Act.put, List.setIfInBounds_toArray, List.set_cons_zero, List.set_cons_succ]
            refine wpAnyH_take (i := 25) (v := ?vra25) rfl (by kernel_rfl) (by kernel_rfl) (by kernel_rfl) (fun _ _ _ h => h) (Or.inl ⟨by rfl, ?hyra25⟩) (by assumption) ?restra25
            case hyra25 => (intro w hSw; (try dsimp only at hSw); go_simp <;> with_reducible rfl)
            try simp only [List.getElem_toArray, List.getElem_cons_succ, List.getElem_cons_zero, Act.put, List.setIfInBounds_toArray, List.set_cons_zero, List.set_cons_succ]
            refine wpAnyH_take (i := 26) (v := ?vra26) rfl (by kernel_rfl) (by kernel_rfl) (by kernel_rfl) (fun _ _ _ h => h) (Or.inl ⟨by rfl, ?hyra26⟩) (by assumption) ?restra26
            case hyra26 => (intro w hSw; (try dsimp only at hSw); go_simp <;> with_reducible rfl)
            try simp only [List.getElem_toArray, List.getElem_cons_succ, List.getElem_cons_zero, Act.put, List.setIfInBounds_toArray, List.set_cons_zero, List.set_cons_succ]
            refine wpAnyH_take (i := 27) (v := ?vra27) rfl (by kernel_rfl) (by kernel_rfl) (by kernel_rfl) (fun _ _ _ h => h) (Or.inl ⟨by rfl, ?hyra27⟩) (by assumption) ?restra27
            case hyra27 => (intro w hSw; (try dsimp only at hSw); go_simp <;> with_reducible rfl)
            try simp only [List.getElem_toArray, List.getElem_cons_succ, List.getElem_cons_zero, Act.put, List.setIfInBounds_toArray, List.set_cons_zero, List.set_cons_succ]
            refine wpAnyH_take (i := 28) (v := ?vra28) rfl (by kernel_rfl) (by kernel_rfl) (by kernel_rfl) (fun _ _ _ h => h) (Or.inl ⟨by rfl, ?hyra28⟩) (by assumption) ?restra28
            case hyra28 => (intro w hSw; (try dsimp only at hSw); go_simp <;> with_reducible rfl)
            try simp only [List.getElem_toArray, List.getElem_cons_succ, List.getElem_cons_zero, Act.put, List.setIfInBounds_toArray, List.set_cons_zero, List.set_cons_succ]
            refine wpAnyH_take (i := 29) (v := ?vra29) rfl (by kernel_rfl) (by kernel_rfl) (by kernel_rfl) (fun _ _ _ h => h) (Or.inl ⟨by rfl, ?hyra29⟩) (by assumption) ?restra29
            case hyra29 => (intro w hSw; (try dsimp only at hSw); go_simp <;> with_reducible rfl)
            try simp only [List.getElem_toArray, List.getElem_cons_succ, List.getElem_cons_zero, Act.put, List.setIfInBounds_toArray, List.set_cons_zero, List.set_cons_succ]
            refine wpAnyH_ready (rs := [30]) (by kernel_rfl) (by simp) ?_
            refine AllReadyH.cons rfl (fun K hK => ?_) AllReadyH.nil
            go_simp
            refine (HS1.out _ HB0.out).mono ?_
            rintro y v1 ⟨rfl, c1⟩
            have HB1v := Lib.hid (Trm.go HB0.out c1)
            clear c1
            refine hK.out _ _ ((by obtain ⟨q0, q1, ⟨q2, q3, q4, q5, q6⟩, q7⟩ := HC.out v1 HB1v.out; obtain ⟨r0, r1, r2, r3, r4, r5⟩ := HC2.out v1 HB1v.out; exact ⟨q0, q1, q2, q3, q4, q5, q6, q7.1, q7.2.1, q7.2.2.1, q7.2.2.2.1, q7.2.2.2.2.1, q7.2.2.2.2.2.1, q7.2.2.2.2.2.2, r0, r1, r2, r3, r4, r5⟩)) (fun hHeld => ?_)
            clear hK K
            try simp only [List.getElem_toArray, List.getElem_cons_succ, List.getElem_cons_zero, Act.put, List.setIfInBounds_toArray, List.set_cons_zero, List.set_cons_succ]
            refine wpAnyH_take (i := 31) (v := ?vra31) rfl (by kernel_rfl) (by kernel_rfl) (by kernel_rfl) (fun _ _ _ h => h) (Or.inl ⟨by rfl, ?hyra31⟩) (by assumption) ?restra31
            case hyra31 => (intro w hSw; (try dsimp only at hSw); go_simp <;> with_reducible rfl)
            try simp only [List.getElem_toArray, List.getElem_cons_succ, List.getElem_cons_zero, Act.put, List.setIfInBounds_toArray, List.set_cons_zero, List.set_cons_succ]
            refine wpAnyH_take (i := 32) (v := ?vra32) rfl (by kernel_rfl) (by kernel_rfl) (by kernel_rfl) (fun _ _ _ h => h) (Or.inl ⟨by rfl, ?hyra32⟩) (by assumption) ?restra32
            case hyra32 => (intro w hSw; (try dsimp only at hSw); go_simp <;> with_reducible rfl)
            try simp only [List.getElem_toArray, List.getElem_cons_succ, List.getElem_cons_zero, Act.put, List.setIfInBounds_toArray, List.set_cons_zero, List.set_cons_succ]
            refine wpAnyH_take (i := 33) (v := ?vra33) rfl (by kernel_rfl) (by kernel_rfl) (by kernel_rfl) (fun _ _ _ h => h) (Or.inl ⟨by rfl, ?hyra33⟩) (by assumption) ?restra33
            case hyra33 => (intro w hSw; (try dsimp only at hSw); go_simp <;> with_reducible rfl)
            try simp only [List.getElem_toArray, List.getElem_cons_succ, List.getElem_cons_zero, Act.put, List.setIfInBounds_toArray, List.set_cons_zero, List.set_cons_succ]
            refine wpAnyH_take (i := 34) (v := ?vra34) rfl (by kernel_rfl) (by kernel_rfl) (by kernel_rfl) (fun _ _ _ h => h) (Or.inl ⟨by rfl, ?hyra34⟩) (by assumption) ?restra34
            case hyra34 => (intro w hSw; (try dsimp only at hSw); go_simp <;> with_reducible rfl)
            try simp only [List.getElem_toArray, List.getElem_cons_succ, List.getElem_cons_zero, Act.put, List.setIfInBounds_toArray, List.set_cons_zero, List.set_cons_succ]
            refine wpAnyH_take (i := 35) (v := ?vra35) rfl (by kernel_rfl) (by kernel_rfl) (by kernel_rfl) (fun _ _ _ h => h) (Or.inl ⟨by rfl, ?hyra35⟩) (by assumption) ?restra35
            case hyra35 => (intro w hSw; (try dsimp only at hSw); go_simp <;> with_reducible rfl)
            try simp only [List.getElem_toArray, List.getElem_cons_succ, List.getElem_cons_zero, Act.put, List.setIfInBounds_toArray, List.set_cons_zero, List.set_cons_succ]
            refine wpAnyH_take (i := 36) (v := ?vra36) rfl (by kernel_rfl) (by kernel_rfl) (by kernel_rfl) (fun _ _ _ h => h) (Or.inl ⟨by rfl, ?hyra36⟩) (by assumption) ?restra36
            case hyra36 => (intro w hSw; (try dsimp only at hSw); go_simp <;> with_reducible rfl)
            try simp only [List.getElem_toArray, List.getElem_cons_succ, List.getElem_cons_zero, Act.put, List.setIfInBounds_toArray, List.set_cons_zero, List.set_cons_succ]
            refine wpAnyH_take (i := 37) (v := ?vra37) rfl (by kernel_rfl) (by kernel_rfl) (by kernel_rfl) (fun _ _ _ h => h) (Or.inl ⟨by rfl, ?hyra37⟩) (by assumption) ?restra37
            case hyra37 => (intro w hSw; (try dsimp only at hSw); go_simp <;> with_reducible rfl)
            try simp only [List.getElem_toArray, List.getElem_cons_succ, List.getElem_cons_zero, Act.put, List.setIfInBounds_toArray, List.set_cons_zero, List.set_cons_succ]
            refine wpAnyH_take (i := 38) (v := ?vra38) rfl (by kernel_rfl) (by kernel_rfl) (by kernel_rfl) (fun _ _ _ h => h) (Or.inl ⟨by rfl, ?hyra38⟩) (by assumption) ?restra38
            case hyra38 => (intro w hSw; (try dsimp only at hSw); go_simp <;> with_reducible rfl)
            try simp only [List.getElem_toArray, List.getElem_cons_succ, List.getElem_cons_zero, Act.put, List.setIfInBounds_toArray, List.set_cons_zero, List.set_cons_succ]
            refine wpAnyH_take (i := 39) (v := ?vra39) rfl (by kernel_rfl) (by kernel_rfl) (by kernel_rfl) (fun _ _ _ h => h) (Or.inl ⟨by rfl, ?hyra39⟩) (by assumption) ?restra39
            case hyra39 => (intro w hSw; (try dsimp only at hSw); go_simp <;> with_reducible rfl)
            try simp only [List.getElem_toArray, List.getElem_cons_succ, List.getElem_cons_zero, Act.put, List.setIfInBounds_toArray, List.set_cons_zero, List.set_cons_succ]
            refine wpAnyH_take (i := 40) (v := ?vra40) rfl (by kernel_rfl) (by kernel_rfl) (by kernel_rfl) (fun _ _ _ h => h) (Or.inl ⟨by rfl, ?hyra40⟩) (by assumption) ?restra40
            case hyra40 => (intro w hSw; (try dsimp only at hSw); go_simp <;> with_reducible rfl)
            try simp only [List.getElem_toArray, List.getElem_cons_succ, List.getElem_cons_zero, Act.put, List.setIfInBounds_toArray, List.set_cons_zero, List.set_cons_succ]
            refine wpAnyH_take (i := 41) (v := ?vra41) rfl (by kernel_rfl) (by kernel_rfl) (by kernel_rfl) (fun _ _ _ h => h) (Or.inl ⟨by rfl, ?hyra41⟩) (by assumption) ?restra41
            case hyra41 => (intro w hSw; (try dsimp only at hSw); go_simp <;> with_reducible rfl)
            try simp only [List.getElem_toArray, List.getElem_cons_succ, List.getElem_cons_zero, Act.put, List.setIfInBounds_toArray, List.set_cons_zero, List.set_cons_succ]
            refine wpAnyH_take (i := 42) (v := ?vra42) rfl (by kernel_rfl) (by kernel_rfl) (by kernel_rfl) (fun _ _ _ h => h) (Or.inl ⟨by rfl, ?hyra42⟩) (by assumption) ?restra42
            case hyra42 => (intro w hSw; (try dsimp only at hSw); go_simp <;> with_reducible rfl)
            try simp only [List.getElem_toArray, List.getElem_cons_succ, List.getElem_cons_zero, Act.put, List.setIfInBounds_toArray, List.set_cons_zero, List.set_cons_succ]
            refine wpAnyH_take (i := 43) (v := ?vra43) rfl (by kernel_rfl) (by kernel_rfl) (by kernel_rfl) (fun _ _ _ h => h) (Or.inl ⟨by rfl, ?hyra43⟩) (by assumption) ?restra43
            case hyra43 => (intro w hSw; (try dsimp only at hSw); go_simp <;> with_reducible rfl)
            try simp only [List.getElem_toArray, List.getElem_cons_succ, List.getElem_cons_zero, Act.put, List.setIfInBounds_toArray, List.set_cons_zero, List.set_cons_succ]
            refine wpAnyH_take (i := 44) (v := ?vra44) rfl (by kernel_rfl) (by kernel_rfl) (by kernel_rfl) (fun _ _ _ h => h) (Or.inl ⟨by rfl, ?hyra44⟩) (by assumption) ?restra44
            case hyra44 => (intro w hSw; (try dsimp only at hSw); go_simp <;> with_reducible rfl)
            try simp only [List.getElem_toArray, List.getElem_cons_succ, List.getElem_cons_zero, Act.put, List.setIfInBounds_toArray, List.set_cons_zero, List.set_cons_succ]
            refine wpAnyH_ready (rs := [45]) (by kernel_rfl) (by simp) ?_
            refine AllReadyH.cons rfl (fun K hK => ?_) AllReadyH.nil
            go_simp
            refine (HS2.out _ HB1v.out).mono ?_
            rintro y v2 ⟨rfl, c2⟩
            have HB2v := Lib.hid (Trm.go HB1v.out c2)
            clear c2
            refine hK.out _ _ ((by obtain ⟨q0, q1, ⟨q2, q3, q4, q5, q6⟩, q7⟩ := HC.out v2 HB2v.out; obtain ⟨r0, r1, r2, r3, r4, r5⟩ := HC2.out v2 HB2v.out; exact ⟨q0, q1, q2, q3, q4, q5, q6, q7.1, q7.2.1, q7.2.2.1, q7.2.2.2.1, q7.2.2.2.2.1, q7.2.2.2.2.2.1, q7.2.2.2.2.2.2, r0, r1, r2, r3, r4, r5⟩)) (fun hHeld => ?_)
            clear hK K
            try simp only [List.getElem_toArray, List.getElem_cons_succ, List.getElem_cons_zero, Act.put, List.setIfInBounds_toArray, List.set_cons_zero, List.set_cons_succ]
            refine wpAnyH_take (i := 46) (v := ?vra46) rfl (by kernel_rfl) (by kernel_rfl) (by kernel_rfl) (fun _ _ _ h => h) (Or.inl ⟨by rfl, ?hyra46⟩) (by assumption) ?restra46
            case hyra46 => (intro w hSw; (try dsimp only at hSw); go_simp <;> with_reducible rfl)
            try simp only [List.getElem_toArray, List.getElem_cons_succ, List.getElem_cons_zero, Act.put, List.setIfInBounds_toArray, List.set_cons_zero, List.set_cons_succ]
            refine wpAnyH_take (i := 47) (v := ?vra47) rfl (by kernel_rfl) (by kernel_rfl) (by kernel_rfl) (fun _ _ _ h => h) (Or.inl ⟨by rfl, ?hyra47⟩) (by assumption) ?restra47
            case hyra47 => (intro w hSw; (try dsimp only at hSw); go_simp <;> with_reducible rfl)
            try simp only [List.getElem_toArray, List.getElem_cons_succ, List.getElem_cons_zero, Act.put, List.setIfInBounds_toArray, List.set_cons_zero, List.set_cons_succ]
            refine wpAnyH_take (i := 48) (v := ?vra48) rfl (by kernel_rfl) (by kernel_rfl) (by kernel_rfl) (fun _ _ _ h => h) (Or.inl ⟨by rfl, ?hyra48⟩) (by assumption) ?restra48
            case hyra48 => (intro w hSw; (try dsimp only at hSw); go_simp <;> with_reducible rfl)
            try simp only [List.getElem_toArray, List.getElem_cons_succ, List.getElem_cons_zero, Act.put, List.setIfInBounds_toArray, List.set_cons_zero, List.set_cons_succ]
            refine wpAnyH_done (by kernel_rfl) ?_ _
            obtain ⟨W6, hW6⟩ : ∃ W : World, W = v2 := ⟨_, rfl⟩
            rw [← hW6] at HB2v ⊢
            have H6 := Lib.hid (H5.out.below HB2v.out)
            have HX6 := Lib.hid (HX5.out.keep HB2v.out)
            have HF6 := Lib.hid (HF5.out.step (RanS.of_below HB2v.out))
            clear hW6 hHeld
            have HPM : Hid (ps.length + 1 ≤ maxLen ∧ (ps.length + 1) * 320 ≤ 140737488355328) := Lib.hid (by have := HPK.out; have := HLL.out; unfold maxLen; omega)
            obtain ⟨i0, hi, hz0, hz1, hz2⟩ := info_parts infoInf3
            have HNEWS := Lib.hid (show ∀ j u, (z.vals hF)[j]? = some u → (W6.alloc (.cells (z.vals hF).toArray 46)).cell? ((⟨W6.heap.size, 0, none⟩ : Addr).add j) = some u from fun j u hu => by
              rw [Addr.add_mid, Nat.zero_add]
              exact (IBox.cell (show IBox (W6.alloc (.cells (z.vals hF).toArray 46)) W6.heap.size z hF from World.alloc_heap_new _ _) j).trans hu)
            have h6row := HX6.out
            go_wp2_with (first
              | (refine wpList_load_row rfl 46 (.tmp 7) rfl bX rfl 46 _ (0, 0) _ h6row Tryz.underlying46 rfl HKR.out ?_)
              | (refine Go.Great.wpList_buildSliceTo rfl 22 46 1 _ rfl W6.heap.size rfl (some 94) rfl Tryz.underlying22 (z.vals hF).toArray (by kernel_rfl) ?_)
              | (at_builtin; refine wpList_append_lies _ rfl (.tmp 92) (.tmp 94) 22 rfl w.heap.size 46 i0 _ 25 320 Tryz.underlying22 hi hz0 hz1 hz2 rfl (by decide) _ ps.length (flatI ps) rfl (H6.out.below (below_one _ _)).inr.row ⟨W6.heap.size, 0, none⟩ 1 1 (z.vals hF) rfl rfl HNEWS.out (HKS.out _ _) (by decide) (HPM.out).1 (HPM.out).2 (by have := (H6.out.below (below_one W6 (.cells (z.vals hF).toArray 46))).bel.size; exact this) _ rfl ?_))
            intro g cap w7 hown hgb hat hlt7
            obtain ⟨P7, hst7⟩ := (H6.out.below (below_one W6 (.cells (z.vals hF).toArray 46))).push (HF6.out.step (RanS.of_below (below_one _ _))) rfl hown hgb (by rcases hat with q | q; exact Or.inl q; exact Or.inr (by rw [World.size_alloc]; exact q)) hlt7
            have H7 := Lib.hid hst7
            have HS7 : Hid ((ps ++ [(z, hF)]).map (·.1) = (M ++ [(bE, fixI M x, hE)]).map (·.2.1)) := Lib.hid (by rw [List.map_append, List.map_append, HSAME.out]; simp [HZ.out.1])
            obtain ⟨ps7, hps7⟩ : ∃ q, q = ps ++ [(z, hF)] := ⟨_, rfl⟩
            have HL7 : Hid (ps7.length = ps.length + 1 ∧ ps7.length ≤ k + 1) := Lib.hid (by have := HPK.out; rw [hps7, List.length_append, List.length_singleton]; omega)
            obtain ⟨M7, hM7⟩ : ∃ q, q = M ++ [(bE, fixI M x, hE)] := ⟨_, rfl⟩
            obtain ⟨av7, hav7⟩ : ∃ q : Option Addr, q = some ⟨g, 0, none⟩ := ⟨_, rfl⟩
            rw [← hps7, ← hM7] at H7 HS7
            clear hst7 hown hgb hat hlt7 hps7 hM7 h6row hi hz0 hz1 hz2 HNEWS H6 HX6 HF6 HPM
            have hln : ps.length + 1 = ps7.length := HL7.out.1.symm
            rw [← hav7, hln] at H7
            rw [← hav7, hln]
            clear hln hav7
            have HLS := Lib.hid (show Calls Tryz.prog 17 #[.pointer (some ⟨e, 0, none⟩)] w7 (fun y w' => ∃ a c, y = .returned (.slice a ps7.length c) ∧ Below w7.heap.size w7 w') from (list_any H7.out.env.env).mono (fun y w' h => by
              obtain ⟨v', rfl, hr, hb⟩ := h
              obtain ⟨a, c, rfl⟩ := row_slice hr
              exact ⟨a, c, by rw [same_len HS7.out], hb⟩))
            have HPK8 : Hid (ps7.length ≤ k + 1) := Lib.hid (HL7.out.2)
            go_wp2_with fail
            refine HLS.out.mono ?_
            rintro y w8 ⟨al, cl, rfl, b8⟩
            have H8 := Lib.hid (H7.out.below b8)
            clear b8 H7 HLS
            go_upto_region 17 with fail
            go_loopw [9] (fun vi wr' => StyIn w P7 e M7 mo' v' (.slice av7 ps7.length cap) ps7 vi wr') (fun i _ => ps7.length - (intOf i).toNat)
            case atStart => exact ⟨0, rfl, by omega, H8.out⟩
            case round =>
              obtain ⟨j, rfl, hj, hst9⟩ := hrel
              have H9 := Lib.hid hst9
              clear hst9
              by_cases hlj : j < ps7.length
              · obtain ⟨g9, cap9, hv9, hrg9, hg9, hP9⟩ := H9.out.inr.at hlj
                obtain ⟨p9, hp9, hlk9, he9⟩ := H9.out.look HS7.out hlj
                obtain ⟨u, hu⟩ : ∃ u, u = ps7[j] := ⟨_, rfl⟩
                rw [← hu] at hrg9 hlk9 he9
                have HFU := Lib.hid (show FirmI P7 _ u.1 u.2 from H9.out.inr.firm u (hu ▸ List.getElem_mem hlj))
                have HU20 : Hid (u.1.rules.length ≤ 1000) := Lib.hid (by have := (H9.out.good p9 hp9).1; rw [he9] at this; omega)
                have HNU : Hid (u.1.name.size ≤ maxLen) := Lib.hid (by have := HFU.out.fit.name; unfold maxLen; omega)
                have HLK := Lib.hid hlk9
                have HE9 := Lib.hid he9
                have HR9 := Lib.hid hrg9
                have HLJ := Lib.hid hlj
                have HGP : Hid (g9 < wr.heap.size) := Lib.hid hg9
                have hwj : wrap64 ((j : Int) + 1) = (j : Int) + 1 := IntWalk.wrap64_in _ (by have := HPK8.out; have := HLL.out; have := HLT.out; omega)
                have hwj2 : IntKind.i64.wrap ((j : Int) + 1) = (j : Int) + 1 := IntWalk.i64_in _ (by have := HPK8.out; have := HLL.out; have := HLT.out; omega)
                have hv10 : av7 = some ⟨g9, 0, none⟩ := by injection hv9
                clear hv9
                subst hv10
                have n9 : wr.cell? ⟨g9, j * 25 + 1, none⟩ = some (.string u.1.name) := HR9.out 1 _ rfl
                clear hrg9 hlk9 he9 hu hp9 hg9 hP9
                go_wp2_with fail
                refine (findP_any H9.out.env _ HNU.out H9.out.hold).mono ?_
                intro y w10 hfd
                obtain ⟨hG, rfl, hfG, b10⟩ := hfd.yes HLK.out
                rw [HE9.out] at hfG ⊢
                have H10 := Lib.hid (H9.out.below b10)
                have HR10 := Lib.hid (range_below HR9.out b10 HGP.out)
                have HGP10 : Hid (g9 < w10.heap.size) := Lib.hid (Nat.lt_of_lt_of_le HGP.out b10.size)
                have HFU10 := Lib.hid (HFU.out.step (RanS.of_below b10))
                have HFG := Lib.hid hfG
                clear hfd hfG b10 n9 H9 HR9 HFU HGP
                dsimp only
                go_upto_region 20 with (refine wpList_store_row rfl 46 (.tmp 10) (.tmp 116) rfl w10.heap.size _ rfl rfl 46 Inf.zeros (World.alloc_heap_new _ _) HKR.out (HKZ.out _ _) (HKO.out _ _) ?_)
                rw [World.setRow_alloc_new]
                obtain ⟨W11, hW11⟩ : ∃ W, W = w10.alloc (.cells (u.1.vals hG).toArray 46) := ⟨_, rfl⟩
                have hb11 : Below w10.heap.size w10 W11 := hW11 ▸ below_one _ _
                have H11 := Lib.hid (H10.out.below hb11)
                have HR11 := Lib.hid (range_below HR10.out hb11 HGP10.out)
                have HGP11 : Hid (g9 < W11.heap.size) := Lib.hid (Nat.lt_of_lt_of_le HGP10.out hb11.size)
                have HFU11 := Lib.hid (HFU10.out.step (RanS.of_below hb11)).here
                have HFG11 := Lib.hid (HFG.out.step (RanS.of_below hb11)).here
                have HY11 := Lib.hid (show IBox W11 w10.heap.size u.1 hG from hW11 ▸ World.alloc_heap_new _ _)
                obtain ⟨bY, hbY⟩ : ∃ b, b = w10.heap.size := ⟨_, rfl⟩
                rw [← hbY] at HY11
                rw [← hW11, ← hbY]
                clear hW11 hbY hb11 H10 HR10 HFU10 HFG HGP10
                have HB11 : Hid (Below W11.heap.size W11 W11.drew) := Lib.hid (Below.refl _ _).drew
                have HSM := Lib.hid (fun (W : World) (hW : Below W11.heap.size W11 W) => same7_any u.1 hG u.2 W (Inf.carry HFG11.out hW) (Inf.carry HFU11.out hW) HU20.out)
                go_wp2_with fail
                refine wp_region_held_drew (S := fun w' => w'.rangeAt bY 0 (u.1.vals hG) ∧ w'.rangeAt g9 (j * 25) (u.1.vals u.2)) (by kernel_rfl) (⟨(HY11.out.keep HB11.out).range, range_below HR11.out HB11.out HGP11.out⟩) (fun hHeld => ?_)
                refine wpAnyH_take (i := 0) (v := ?vrc130) rfl (by kernel_rfl) (by kernel_rfl) (by kernel_rfl) (fun _ _ _ h => h) (Or.inl ⟨by rfl, ?hyrc130⟩) (by assumption) ?restrc130
                case hyrc130 => (intro w hSw; (try dsimp only at hSw); go_simp <;> with_reducible rfl)
                try simp only [List.getElem_toArray, List.getElem_cons_zero, Act.put, List.setIfInBounds_toArray, List.set_cons_zero, List.set_cons_succ]
                refine wpAnyH_take (i := 1) (v := ?vrc131) rfl (by kernel_rfl) (by kernel_rfl) (by kernel_rfl) (fun _ _ _ h => h) (Or.inl ⟨by rfl, ?hyrc131⟩) (by assumption) ?restrc131
                case hyrc131 => (intro w hSw; (try dsimp only at hSw); go_simp <;> with_reducible rfl)
                try simp only [List.getElem_toArray, List.getElem_cons_succ, List.getElem_cons_zero, Act.put, List.setIfInBounds_toArray, List.set_cons_zero, List.set_cons_succ]
                refine wpAnyH_take (i := 2) (v := ?vrc132) rfl (by kernel_rfl) (by kernel_rfl) (by kernel_rfl) (fun _ _ _ h => h) (Or.inl ⟨by rfl, ?hyrc132⟩) (by assumption) ?restrc132
                case hyrc132 => (intro w hSw; (try dsimp only at hSw); go_simp <;> with_reducible rfl)
                try simp only [List.getElem_toArray, List.getElem_cons_succ, List.getElem_cons_zero, Act.put, List.setIfInBounds_toArray, List.set_cons_zero, List.set_cons_succ]
                refine wpAnyH_take (i := 3) (v := .agg (u.1.vals hG).toArray) rfl (by kernel_rfl) (by kernel_rfl) (by kernel_rfl) (fun _ _ _ h => h) (yieldsIf_load_mid rfl 46 (.tmp 10) rfl bY 0 rfl (u.1.vals hG) _ (fun _ h => h.1) Tryz.underlying46 rfl HKL.out) (by assumption) ?_
                try simp only [List.getElem_toArray, List.getElem_cons_succ, List.getElem_cons_zero, Act.put, List.setIfInBounds_toArray, List.set_cons_zero, List.set_cons_succ]
                refine wpAnyH_take (i := 4) (v := ?vrc134) rfl (by kernel_rfl) (by kernel_rfl) (by kernel_rfl) (fun _ _ _ h => h) (Or.inl ⟨by rfl, ?hyrc134⟩) (by assumption) ?restrc134
                case hyrc134 => (intro w hSw; (try dsimp only at hSw); go_simp <;> with_reducible rfl)
                try simp only [List.getElem_toArray, List.getElem_cons_succ, List.getElem_cons_zero, Act.put, List.setIfInBounds_toArray, List.set_cons_zero, List.set_cons_succ]
                refine wpAnyH_take (i := 5) (v := ?vrc135) rfl (by kernel_rfl) (by kernel_rfl) (by kernel_rfl) (fun _ _ _ h => h) (Or.inl ⟨by rfl, ?hyrc135⟩) (by assumption) ?restrc135
                case hyrc135 => (intro w hSw; (try dsimp only at hSw); go_simp <;> with_reducible rfl)
                try simp only [List.getElem_toArray, List.getElem_cons_succ, List.getElem_cons_zero, Act.put, List.setIfInBounds_toArray, List.set_cons_zero, List.set_cons_succ]
                refine wpAnyH_take (i := 6) (v := ?vrc136) rfl (by kernel_rfl) (by kernel_rfl) (by kernel_rfl) (fun _ _ _ h => h) (Or.inl ⟨by rfl, ?hyrc136⟩) (by assumption) ?restrc136
                case hyrc136 => (intro w hSw; (try dsimp only at hSw); go_simp <;> with_reducible rfl)
                try simp only [List.getElem_toArray, List.getElem_cons_succ, List.getElem_cons_zero, Act.put, List.setIfInBounds_toArray, List.set_cons_zero, List.set_cons_succ]
                refine wpAnyH_take (i := 7) (v := .agg (u.1.vals u.2).toArray) rfl (by kernel_rfl) (by kernel_rfl) (by kernel_rfl) (fun _ _ _ h => h) (yieldsIf_load_mid rfl 46 (.tmp 124) rfl g9 (j * 25) rfl (u.1.vals u.2) _ (fun _ h => h.2) Tryz.underlying46 rfl HKL.out) (by assumption) ?_
                try simp only [List.getElem_toArray, List.getElem_cons_succ, List.getElem_cons_zero, Act.put, List.setIfInBounds_toArray, List.set_cons_zero, List.set_cons_succ]
                refine wpAnyH_ready (rs := [8]) (by kernel_rfl) (by simp) ?_
                refine AllReadyH.cons rfl (fun K hK => ?_) AllReadyH.nil
                go_simp
                refine (HSM.out _ HB11.out).mono ?_
                rintro y v3 ⟨rfl, c3⟩
                have HB12 := Lib.hid (Trm.go HB11.out c3)
                clear c3
                refine hK.out _ _ (⟨(HY11.out.keep HB12.out).range, range_below HR11.out HB12.out HGP11.out⟩) (fun hHeld => ?_)
                clear hK K
                try simp only [List.getElem_toArray, List.getElem_cons_succ, List.getElem_cons_zero, Act.put, List.setIfInBounds_toArray, List.set_cons_zero, List.set_cons_succ]
                refine wpAnyH_take (i := 9) (v := ?vrc139) rfl (by kernel_rfl) (by kernel_rfl) (by kernel_rfl) (fun _ _ _ h => h) (Or.inl ⟨by rfl, ?hyrc139⟩) (by assumption) ?restrc139
                case hyrc139 => (intro w hSw; (try dsimp only at hSw); go_simp <;> with_reducible rfl)
                try simp only [List.getElem_toArray, List.getElem_cons_succ, List.getElem_cons_zero, Act.put, List.setIfInBounds_toArray, List.set_cons_zero, List.set_cons_succ]
                refine wpAnyH_take (i := 10) (v := ?vrc1310) rfl (by kernel_rfl) (by kernel_rfl) (by kernel_rfl) (fun _ _ _ h => h) (Or.inl ⟨by rfl, ?hyrc1310⟩) (by assumption) ?restrc1310
                case hyrc1310 => (intro w hSw; (try dsimp only at hSw); go_simp <;> with_reducible rfl)
                try simp only [List.getElem_toArray, List.getElem_cons_succ, List.getElem_cons_zero, Act.put, List.setIfInBounds_toArray, List.set_cons_zero, List.set_cons_succ]
                refine wpAnyH_done (by kernel_rfl) ?_ _
                have H12 := Lib.hid (H11.out.below HB12.out)
                go_wp2_with fail
                go_roundw
                case rel => exact ⟨j + 1, by first | rfl | (rw [hwj]; rfl), HLJ.out, H12.out⟩
                case measure => first | exact less_step rfl HLJ.out | exact less_step hwj HLJ.out
              · have H13 := Lib.hid H9.out
                clear H9
                go_wp2_with fail
                go_roundw
                case rel => exact ⟨k + 1, M7, P7, mo', v', ps7, by first | rfl | (rw [hwk]; rfl), HLT.out, HPK8.out, HS7.out, H13.out⟩
                case measure => first | exact less_step rfl HLT.out | exact less_step hwk HLT.out
          · have hkb : (x.kind == 2) = false := by simp [hk2]
            clear hk2
            refine wp_region_held_drew (S := fun w' => w'.cell? ⟨bX, 0, none⟩ = some (.int .u8 x.kind) ∧ w'.cell? ⟨bX, 1, none⟩ = some (.string x.name) ∧ w'.cell? ⟨bX, 3, none⟩ = some (.int .u8 x.ty.k) ∧ w'.cell? ⟨bX, 4, none⟩ = some (.int .i64 x.ty.n) ∧ w'.cell? ⟨bX, 5, none⟩ = some (.string x.ty.s) ∧ w'.cell? ⟨bX, 6, none⟩ = some (.slice hF.ty.lo x.ty.ls.length hF.ty.lc) ∧ w'.cell? ⟨bX, 7, none⟩ = some (.slice hF.ty.to x.ty.ts.length hF.ty.tc) ∧ w'.cell? ⟨b, off + k * 25, none⟩ = some (.int .u8 x.kind) ∧ w'.cell? ⟨b, off + k * 25 + 1, none⟩ = some (.string x.name) ∧ w'.cell? ⟨b, off + k * 25 + 3, none⟩ = some (.int .u8 x.ty.k) ∧ w'.cell? ⟨b, off + k * 25 + 4, none⟩ = some (.int .i64 x.ty.n) ∧ w'.cell? ⟨b, off + k * 25 + 5, none⟩ = some (.string x.ty.s) ∧ w'.cell? ⟨b, off + k * 25 + 6, none⟩ = some (.slice hd.ty.lo x.ty.ls.length hd.ty.lc) ∧ w'.cell? ⟨b, off + k * 25 + 7, none⟩ = some (.slice hd.ty.to x.ty.ts.length hd.ty.tc)) (by kernel_rfl) ((by obtain ⟨q0, q1, ⟨q2, q3, q4, q5, q6⟩, q7⟩ := HC.out _ HB0.out; exact ⟨q0, q1, q2, q3, q4, q5, q6, q7⟩)) (fun hHeld => ?_)
            refine wpAnyH_take (i := 0) (v := ?vrb0) rfl (by kernel_rfl) (by kernel_rfl) (by kernel_rfl) (fun _ _ _ h => h) (Or.inl ⟨by rfl, ?hyrb0⟩) (by assumption) ?restrb0
            case hyrb0 => (intro w hSw; (try dsimp only at hSw); go_simp <;> with_reducible rfl)
            try simp only [List.getElem_toArray, List.getElem_cons_zero, Act.put, List.setIfInBounds_toArray, List.set_cons_zero, List.set_cons_succ]
            refine wpAnyH_take (i := 1) (v := ?vrb1) rfl (by kernel_rfl) (by kernel_rfl) (by kernel_rfl) (fun _ _ _ h => h) (Or.inl ⟨by rfl, ?hyrb1⟩) (by assumption) ?restrb1
            case hyrb1 => (intro w hSw; (try dsimp only at hSw); go_simp <;> with_reducible rfl)
            try simp only [List.getElem_toArray, List.getElem_cons_succ, List.getElem_cons_zero, Act.put, List.setIfInBounds_toArray, List.set_cons_zero, List.set_cons_succ]
            refine wpAnyH_take (i := 2) (v := ?vrb2) rfl (by kernel_rfl) (by kernel_rfl) (by kernel_rfl) (fun _ _ _ h => h) (Or.inl ⟨by rfl, ?hyrb2⟩) (by assumption) ?restrb2
            case hyrb2 => (intro w hSw; (try dsimp only at hSw); go_simp <;> with_reducible rfl)
            try simp only [List.getElem_toArray, List.getElem_cons_succ, List.getElem_cons_zero, Act.put, List.setIfInBounds_toArray, List.set_cons_zero, List.set_cons_succ]
            refine wpAnyH_take (i := 3) (v := ?vrb3) rfl (by kernel_rfl) (by kernel_rfl) (by kernel_rfl) (fun _ _ _ h => h) (Or.inl ⟨by rfl, ?hyrb3⟩) (by assumption) ?restrb3
            case hyrb3 => (intro w hSw; (try dsimp only at hSw); go_simp <;> with_reducible rfl)
            try simp only [List.getElem_toArray, List.getElem_cons_succ, List.getElem_cons_zero, Act.put, List.setIfInBounds_toArray, List.set_cons_zero, List.set_cons_succ]
            refine wpAnyH_take (i := 4) (v := ?vrb4) rfl (by kernel_rfl) (by kernel_rfl) (by kernel_rfl) (fun _ _ _ h => h) (Or.inl ⟨by rfl, ?hyrb4⟩) (by assumption) ?restrb4
            case hyrb4 => (intro w hSw; (try dsimp only at hSw); go_simp <;> with_reducible rfl)
            try simp only [List.getElem_toArray, List.getElem_cons_succ, List.getElem_cons_zero, Act.put, List.setIfInBounds_toArray, List.set_cons_zero, List.set_cons_succ]
            refine wpAnyH_take (i := 5) (v := ?vrb5) rfl (by kernel_rfl) (by kernel_rfl) (by kernel_rfl) (fun _ _ _ h => h) (Or.inl ⟨by rfl, ?hyrb5⟩) (by assumption) ?restrb5
            case hyrb5 => (intro w hSw; (try dsimp only at hSw); go_simp <;> with_reducible rfl)
            try simp only [List.getElem_toArray, List.getElem_cons_succ, List.getElem_cons_zero, Act.put, List.setIfInBounds_toArray, List.set_cons_zero, List.set_cons_succ]
            refine wpAnyH_take (i := 6) (v := ?vrb6) rfl (by kernel_rfl) (by kernel_rfl) (by kernel_rfl) (fun _ _ _ h => h) (Or.inl ⟨by rfl, ?hyrb6⟩) (by assumption) ?restrb6
            case hyrb6 => (intro w hSw; (try dsimp only at hSw); go_simp <;> with_reducible rfl)
            try simp only [List.getElem_toArray, List.getElem_cons_succ, List.getElem_cons_zero, Act.put, List.setIfInBounds_toArray, List.set_cons_zero, List.set_cons_succ]
            refine wpAnyH_take (i := 7) (v := ?vrb7) rfl (by kernel_rfl) (by kernel_rfl) (by kernel_rfl) (fun _ _ _ h => h) (Or.inl ⟨by rfl, ?hyrb7⟩) (by assumption) ?restrb7
            case hyrb7 => (intro w hSw; (try dsimp only at hSw); go_simp <;> with_reducible rfl)
            try simp only [List.getElem_toArray, List.getElem_cons_succ, List.getElem_cons_zero, Act.put, List.setIfInBounds_toArray, List.set_cons_zero, List.set_cons_succ]
            refine wpAnyH_take (i := 8) (v := ?vrb8) rfl (by kernel_rfl) (by kernel_rfl) (by kernel_rfl) (fun _ _ _ h => h) (Or.inl ⟨by rfl, ?hyrb8⟩) (by assumption) ?restrb8
            case hyrb8 => (intro w hSw; (try dsimp only at hSw); go_simp <;> with_reducible rfl)
            try simp only [List.getElem_toArray, List.getElem_cons_succ, List.getElem_cons_zero, Act.put, List.setIfInBounds_toArray, List.set_cons_zero, List.set_cons_succ]
            refine wpAnyH_take (i := 9) (v := ?vrb9) rfl (by kernel_rfl) (by kernel_rfl) (by kernel_rfl) (fun _ _ _ h => h) (Or.inl ⟨by rfl, ?hyrb9⟩) (by assumption) ?restrb9
            case hyrb9 => (intro w hSw; (try dsimp only at hSw); go_simp <;> with_reducible rfl)
            try simp only [List.getElem_toArray, List.getElem_cons_succ, List.getElem_cons_zero, Act.put, List.setIfInBounds_toArray, List.set_cons_zero, List.set_cons_succ]
            refine wpAnyH_take (i := 10) (v := ?vrb10) rfl (by kernel_rfl) (by kernel_rfl) (by kernel_rfl) (fun _ _ _ h => h) (Or.inl ⟨by rfl, ?hyrb10⟩) (by assumption) ?restrb10
            case hyrb10 => (intro w hSw; (try dsimp only at hSw); go_simp <;> with_reducible rfl)
            try simp only [List.getElem_toArray, List.getElem_cons_succ, List.getElem_cons_zero, Act.put, List.setIfInBounds_toArray, List.set_cons_zero, List.set_cons_succ]
            refine wpAnyH_take (i := 11) (v := ?vrb11) rfl (by kernel_rfl) (by kernel_rfl) (by kernel_rfl) (fun _ _ _ h => h) (Or.inl ⟨by rfl, ?hyrb11⟩) (by assumption) ?restrb11
            case hyrb11 => (intro w hSw; (try dsimp only at hSw); go_simp <;> with_reducible rfl)
            try simp only [List.getElem_toArray, List.getElem_cons_succ, List.getElem_cons_zero, Act.put, List.setIfInBounds_toArray, List.set_cons_zero, List.set_cons_succ]
            refine wpAnyH_take (i := 12) (v := ?vrb12) rfl (by kernel_rfl) (by kernel_rfl) (by kernel_rfl) (fun _ _ _ h => h) (Or.inl ⟨by rfl, ?hyrb12⟩) (by assumption) ?restrb12
            case hyrb12 => (intro w hSw; (try dsimp only at hSw); go_simp <;> with_reducible rfl)
            try simp only [List.getElem_toArray, List.getElem_cons_succ, List.getElem_cons_zero, Act.put, List.setIfInBounds_toArray, List.set_cons_zero, List.set_cons_succ]
            refine wpAnyH_take (i := 13) (v := ?vrb13) rfl (by kernel_rfl) (by kernel_rfl) (by kernel_rfl) (fun _ _ _ h => h) (Or.inl ⟨by rfl, ?hyrb13⟩) (by assumption) ?restrb13
            case hyrb13 => (intro w hSw; (try dsimp only at hSw); go_simp <;> with_reducible rfl)
            try simp only [List.getElem_toArray, List.getElem_cons_succ, List.getElem_cons_zero, Act.put, List.setIfInBounds_toArray, List.set_cons_zero, List.set_cons_succ]
            refine wpAnyH_take (i := 14) (v := ?vrb14) rfl (by kernel_rfl) (by kernel_rfl) (by kernel_rfl) (fun _ _ _ h => h) (Or.inl ⟨by rfl, ?hyrb14⟩) (by assumption) ?restrb14
            case hyrb14 => (intro w hSw; (try dsimp only at hSw); go_simp <;> with_reducible rfl)
            try simp only [List.getElem_toArray, List.getElem_cons_succ, List.getElem_cons_zero, Act.put, List.setIfInBounds_toArray, List.set_cons_zero, List.set_cons_succ]
            refine wpAnyH_take (i := 15) (v := ?vrb15) rfl (by kernel_rfl) (by kernel_rfl) (by kernel_rfl) (fun _ _ _ h => h) (Or.inl ⟨by rfl, ?hyrb15⟩) (by assumption) ?restrb15
            case hyrb15 => (intro w hSw; (try dsimp only at hSw); go_simp <;> with_reducible rfl)
            try simp only [List.getElem_toArray, List.getElem_cons_succ, List.getElem_cons_zero, Act.put, List.setIfInBounds_toArray, List.set_cons_zero, List.set_cons_succ]
            refine wpAnyH_take (i := 16) (v := ?vrb16) rfl (by kernel_rfl) (by kernel_rfl) (by kernel_rfl) (fun _ _ _ h => h) (Or.inl ⟨by rfl, ?hyrb16⟩) (by assumption) ?restrb16
            case hyrb16 => (intro w hSw; (try dsimp only at hSw); go_simp <;> with_reducible rfl)
            try simp only [List.getElem_toArray, List.getElem_cons_succ, List.getElem_cons_zero, Act.put, List.setIfInBounds_toArray, List.set_cons_zero, List.set_cons_succ]
            refine wpAnyH_take (i := 17) (v := ?vrb17) rfl (by kernel_rfl) (by kernel_rfl) (by kernel_rfl) (fun _ _ _ h => h) (Or.inl ⟨by rfl, ?hyrb17⟩) (by assumption) ?restrb17
            case hyrb17 => (intro w hSw; (try dsimp only at hSw); go_simp <;> with_reducible rfl)
            try simp only [List.getElem_toArray, List.getElem_cons_succ, List.getElem_cons_zero, Act.put, List.setIfInBounds_toArray, List.set_cons_zero, List.set_cons_succ]
            refine wpAnyH_take (i := 18) (v := ?vrb18) rfl (by kernel_rfl) (by kernel_rfl) (by kernel_rfl) (fun _ _ _ h => h) (Or.inl ⟨by rfl, ?hyrb18⟩) (by assumption) ?restrb18
            case hyrb18 => (intro w hSw; (try dsimp only at hSw); go_simp <;> with_reducible rfl)
            try simp only [List.getElem_toArray, List.getElem_cons_succ, List.getElem_cons_zero, Act.put, List.setIfInBounds_toArray, List.set_cons_zero, List.set_cons_succ]
            refine wpAnyH_take (i := 19) (v := ?vrb19) rfl (by kernel_rfl) (by kernel_rfl) (by kernel_rfl) (fun _ _ _ h => h) (Or.inl ⟨by rfl, ?hyrb19⟩) (by assumption) ?restrb19
            case hyrb19 => (intro w hSw; (try dsimp only at hSw); go_simp <;> with_reducible rfl)
            try simp only [List.getElem_toArray, List.getElem_cons_succ, List.getElem_cons_zero, Act.put, List.setIfInBounds_toArray, List.set_cons_zero, List.set_cons_succ]
            refine wpAnyH_take (i := 20) (v := ?vrb20) rfl (by kernel_rfl) (by kernel_rfl) (by kernel_rfl) (fun _ _ _ h => h) (Or.inl ⟨by rfl, ?hyrb20⟩) (by assumption) ?restrb20
            case hyrb20 => (intro w hSw; (try dsimp only at hSw); go_simp <;> with_reducible rfl)
            try simp only [List.getElem_toArray, List.getElem_cons_succ, List.getElem_cons_zero, Act.put, List.setIfInBounds_toArray, List.set_cons_zero, List.set_cons_succ]
            refine wpAnyH_take (i := 21) (v := ?vrb21) rfl (by kernel_rfl) (by kernel_rfl) (by kernel_rfl) (fun _ _ _ h => h) (Or.inl ⟨by rfl, ?hyrb21⟩) (by assumption) ?restrb21
            case hyrb21 => (intro w hSw; (try dsimp only at hSw); go_simp <;> with_reducible rfl)
            try simp only [List.getElem_toArray, List.getElem_cons_succ, List.getElem_cons_zero, Act.put, List.setIfInBounds_toArray, List.set_cons_zero, List.set_cons_succ]
            refine wpAnyH_take (i := 22) (v := ?vrb22) rfl (by kernel_rfl) (by kernel_rfl) (by kernel_rfl) (fun _ _ _ h => h) (Or.inl ⟨by rfl, ?hyrb22⟩) (by assumption) ?restrb22
            case hyrb22 => (intro w hSw; (try dsimp only at hSw); go_simp <;> with_reducible rfl)
            try simp only [List.getElem_toArray, List.getElem_cons_succ, List.getElem_cons_zero, Act.put, List.setIfInBounds_toArray, List.set_cons_zero, List.set_cons_succ]
            refine wpAnyH_take (i := 23) (v := ?vrb23) rfl (by kernel_rfl) (by kernel_rfl) (by kernel_rfl) (fun _ _ _ h => h) (Or.inl ⟨by rfl, ?hyrb23⟩) (by assumption) ?restrb23
            case hyrb23 => (intro w hSw; (try dsimp only at hSw); go_simp <;> with_reducible rfl)
            try simp only [List.getElem_toArray, List.getElem_cons_succ, List.getElem_cons_zero, Act.put, List.setIfInBounds_toArray, List.set_cons_zero, List.set_cons_succ]
            refine wpAnyH_take (i := 24) (v := ?vrb24) rfl (by kernel_rfl) (by kernel_rfl) (by kernel_rfl) (fun _ _ _ h => h) (Or.inl ⟨by rfl, ?hyrb24⟩) (by assumption) ?restrb24
            case hyrb24 => (intro w hSw; (try dsimp only at hSw); go_simp <;> with_reducible rfl)
            try simp only [List.getElem_toArray, List.getElem_cons_succ, List.getElem_cons_zero, Act.put, List.setIfInBounds_toArray, List.set_cons_zero, List.set_cons_succ]
            refine wpAnyH_take (i := 25) (v := ?vrb25) rfl (by kernel_rfl) (by kernel_rfl) (by kernel_rfl) (fun _ _ _ h => h) (Or.inl ⟨by rfl, ?hyrb25⟩) (by assumption) ?restrb25
            case hyrb25 => (intro w hSw; (try dsimp only at hSw); go_simp <;> with_reducible rfl)
            try simp only [List.getElem_toArray, List.getElem_cons_succ, List.getElem_cons_zero, Act.put, List.setIfInBounds_toArray, List.set_cons_zero, List.set_cons_succ]
            refine wpAnyH_take (i := 26) (v := ?vrb26) rfl (by kernel_rfl) (by kernel_rfl) (by kernel_rfl) (fun _ _ _ h => h) (Or.inl ⟨by rfl, ?hyrb26⟩) (by assumption) ?restrb26
            case hyrb26 => (intro w hSw; (try dsimp only at hSw); go_simp <;> with_reducible rfl)
            try simp only [List.getElem_toArray, List.getElem_cons_succ, List.getElem_cons_zero, Act.put, List.setIfInBounds_toArray, List.set_cons_zero, List.set_cons_succ]
            refine wpAnyH_take (i := 27) (v := ?vrb27) rfl (by kernel_rfl) (by kernel_rfl) (by kernel_rfl) (fun _ _ _ h => h) (Or.inl ⟨by rfl, ?hyrb27⟩) (by assumption) ?restrb27
            case hyrb27 => (intro w hSw; (try dsimp only at hSw); go_simp <;> with_reducible rfl)
            try simp only [List.getElem_toArray, List.getElem_cons_succ, List.getElem_cons_zero, Act.put, List.setIfInBounds_toArray, List.set_cons_zero, List.set_cons_succ]
            refine wpAnyH_take (i := 28) (v := ?vrb28) rfl (by kernel_rfl) (by kernel_rfl) (by kernel_rfl) (fun _ _ _ h => h) (Or.inl ⟨by rfl, ?hyrb28⟩) (by assumption) ?restrb28
            case hyrb28 => (intro w hSw; (try dsimp only at hSw); go_simp <;> with_reducible rfl)
            try simp only [List.getElem_toArray, List.getElem_cons_succ, List.getElem_cons_zero, Act.put, List.setIfInBounds_toArray, List.set_cons_zero, List.set_cons_succ]
            refine wpAnyH_take (i := 29) (v := ?vrb29) rfl (by kernel_rfl) (by kernel_rfl) (by kernel_rfl) (fun _ _ _ h => h) (Or.inl ⟨by rfl, ?hyrb29⟩) (by assumption) ?restrb29
            case hyrb29 => (intro w hSw; (try dsimp only at hSw); go_simp <;> with_reducible rfl)
            try simp only [List.getElem_toArray, List.getElem_cons_succ, List.getElem_cons_zero, Act.put, List.setIfInBounds_toArray, List.set_cons_zero, List.set_cons_succ]
            refine wpAnyH_ready (rs := [30]) (by kernel_rfl) (by simp) ?_
            refine AllReadyH.cons rfl (fun K hK => ?_) AllReadyH.nil
            go_simp
            refine (HS1.out _ HB0.out).mono ?_
            rintro y v1 ⟨rfl, c1⟩
            have HB1v := Lib.hid (Trm.go HB0.out c1)
            clear c1
            refine hK.out _ _ ((by obtain ⟨q0, q1, ⟨q2, q3, q4, q5, q6⟩, q7⟩ := HC.out v1 HB1v.out; exact ⟨q0, q1, q2, q3, q4, q5, q6, q7⟩)) (fun hHeld => ?_)
            clear hK K
            try simp only [List.getElem_toArray, List.getElem_cons_succ, List.getElem_cons_zero, Act.put, List.setIfInBounds_toArray, List.set_cons_zero, List.set_cons_succ]
            refine wpAnyH_take (i := 31) (v := ?vrb31) rfl (by kernel_rfl) (by kernel_rfl) (by kernel_rfl) (fun _ _ _ h => h) (Or.inl ⟨by rfl, ?hyrb31⟩) (by assumption) ?restrb31
            case hyrb31 => (intro w hSw; (try dsimp only at hSw); go_simp <;> with_reducible rfl)
            try simp only [List.getElem_toArray, List.getElem_cons_succ, List.getElem_cons_zero, Act.put, List.setIfInBounds_toArray, List.set_cons_zero, List.set_cons_succ]
            refine wpAnyH_take (i := 32) (v := ?vrb32) rfl (by kernel_rfl) (by kernel_rfl) (by kernel_rfl) (fun _ _ _ h => h) (Or.inl ⟨by rfl, ?hyrb32⟩) (by assumption) ?restrb32
            case hyrb32 => (intro w hSw; (try dsimp only at hSw); go_simp <;> with_reducible rfl)
            try simp only [List.getElem_toArray, List.getElem_cons_succ, List.getElem_cons_zero, Act.put, List.setIfInBounds_toArray, List.set_cons_zero, List.set_cons_succ]
            refine wpAnyH_take (i := 33) (v := ?vrb33) rfl (by kernel_rfl) (by kernel_rfl) (by kernel_rfl) (fun _ _ _ h => h) (Or.inl ⟨by rfl, ?hyrb33⟩) (by assumption) ?restrb33
            case hyrb33 => (intro w hSw; (try dsimp only at hSw); go_simp <;> with_reducible rfl)
            try simp only [List.getElem_toArray, List.getElem_cons_succ, List.getElem_cons_zero, Act.put, List.setIfInBounds_toArray, List.set_cons_zero, List.set_cons_succ]
            refine wpAnyH_take (i := 34) (v := ?vrb34) rfl (by kernel_rfl) (by kernel_rfl) (by kernel_rfl) (fun _ _ _ h => h) (Or.inl ⟨by rfl, ?hyrb34⟩) (by assumption) ?restrb34
            case hyrb34 => (intro w hSw; (try dsimp only at hSw); go_simp <;> with_reducible rfl)
            try simp only [List.getElem_toArray, List.getElem_cons_succ, List.getElem_cons_zero, Act.put, List.setIfInBounds_toArray, List.set_cons_zero, List.set_cons_succ]
            refine wpAnyH_take (i := 35) (v := ?vrb35) rfl (by kernel_rfl) (by kernel_rfl) (by kernel_rfl) (fun _ _ _ h => h) (Or.inl ⟨by rfl, ?hyrb35⟩) (by assumption) ?restrb35
            case hyrb35 => (intro w hSw; (try dsimp only at hSw); go_simp <;> with_reducible rfl)
            try simp only [List.getElem_toArray, List.getElem_cons_succ, List.getElem_cons_zero, Act.put, List.setIfInBounds_toArray, List.set_cons_zero, List.set_cons_succ]
            refine wpAnyH_take (i := 36) (v := ?vrb36) rfl (by kernel_rfl) (by kernel_rfl) (by kernel_rfl) (fun _ _ _ h => h) (Or.inl ⟨by rfl, ?hyrb36⟩) (by assumption) ?restrb36
            case hyrb36 => (intro w hSw; (try dsimp only at hSw); go_simp <;> with_reducible rfl)
            try simp only [List.getElem_toArray, List.getElem_cons_succ, List.getElem_cons_zero, Act.put, List.setIfInBounds_toArray, List.set_cons_zero, List.set_cons_succ]
            refine wpAnyH_take (i := 37) (v := ?vrb37) rfl (by kernel_rfl) (by kernel_rfl) (by kernel_rfl) (fun _ _ _ h => h) (Or.inl ⟨by rfl, ?hyrb37⟩) (by assumption) ?restrb37
            case hyrb37 => (intro w hSw; (try dsimp only at hSw); go_simp <;> with_reducible rfl)
            try simp only [List.getElem_toArray, List.getElem_cons_succ, List.getElem_cons_zero, Act.put, List.setIfInBounds_toArray, List.set_cons_zero, List.set_cons_succ]
            refine wpAnyH_take (i := 38) (v := undef) rfl (by kernel_rfl) (by kernel_rfl) (by kernel_rfl) (fun _ _ _ h => h) (Or.inr ⟨by rfl, rfl⟩) (by assumption) ?_
            try simp only [List.getElem_toArray, List.getElem_cons_succ, List.getElem_cons_zero, Act.put, List.setIfInBounds_toArray, List.set_cons_zero, List.set_cons_succ]
            refine wpAnyH_take (i := 39) (v := undef) rfl (by kernel_rfl) (by kernel_rfl) (by kernel_rfl) (fun _ _ _ h => h) (Or.inr ⟨by rfl, rfl⟩) (by assumption) ?_
            try simp only [List.getElem_toArray, List.getElem_cons_succ, List.getElem_cons_zero, Act.put, List.setIfInBounds_toArray, List.set_cons_zero, List.set_cons_succ]
            refine wpAnyH_take (i := 40) (v := undef) rfl (by kernel_rfl) (by kernel_rfl) (by kernel_rfl) (fun _ _ _ h => h) (Or.inr ⟨by rfl, rfl⟩) (by assumption) ?_
            try simp only [List.getElem_toArray, List.getElem_cons_succ, List.getElem_cons_zero, Act.put, List.setIfInBounds_toArray, List.set_cons_zero, List.set_cons_succ]
            refine wpAnyH_take (i := 41) (v := undef) rfl (by kernel_rfl) (by kernel_rfl) (by kernel_rfl) (fun _ _ _ h => h) (Or.inr ⟨by rfl, rfl⟩) (by assumption) ?_
            try simp only [List.getElem_toArray, List.getElem_cons_succ, List.getElem_cons_zero, Act.put, List.setIfInBounds_toArray, List.set_cons_zero, List.set_cons_succ]
            refine wpAnyH_take (i := 42) (v := undef) rfl (by kernel_rfl) (by kernel_rfl) (by kernel_rfl) (fun _ _ _ h => h) (Or.inr ⟨by rfl, rfl⟩) (by assumption) ?_
            try simp only [List.getElem_toArray, List.getElem_cons_succ, List.getElem_cons_zero, Act.put, List.setIfInBounds_toArray, List.set_cons_zero, List.set_cons_succ]
            refine wpAnyH_take (i := 43) (v := undef) rfl (by kernel_rfl) (by kernel_rfl) (by kernel_rfl) (fun _ _ _ h => h) (Or.inr ⟨by rfl, rfl⟩) (by assumption) ?_
            try simp only [List.getElem_toArray, List.getElem_cons_succ, List.getElem_cons_zero, Act.put, List.setIfInBounds_toArray, List.set_cons_zero, List.set_cons_succ]
            refine wpAnyH_take (i := 44) (v := undef) rfl (by kernel_rfl) (by kernel_rfl) (by kernel_rfl) (fun _ _ _ h => h) (Or.inr ⟨by rfl, rfl⟩) (by assumption) ?_
            try simp only [List.getElem_toArray, List.getElem_cons_succ, List.getElem_cons_zero, Act.put, List.setIfInBounds_toArray, List.set_cons_zero, List.set_cons_succ]
            refine wpAnyH_take (i := 45) (v := undef) rfl (by kernel_rfl) (by kernel_rfl) (by kernel_rfl) (fun _ _ _ h => h) (Or.inr ⟨by rfl, rfl⟩) (by assumption) ?_
            try simp only [List.getElem_toArray, List.getElem_cons_succ, List.getElem_cons_zero, Act.put, List.setIfInBounds_toArray, List.set_cons_zero, List.set_cons_succ]
            refine wpAnyH_take (i := 46) (v := undef) rfl (by kernel_rfl) (by kernel_rfl) (by kernel_rfl) (fun _ _ _ h => h) (Or.inr ⟨by rfl, rfl⟩) (by assumption) ?_
            try simp only [List.getElem_toArray, List.getElem_cons_succ, List.getElem_cons_zero, Act.put, List.setIfInBounds_toArray, List.set_cons_zero, List.set_cons_succ]
            refine wpAnyH_take (i := 47) (v := ?vrb47) rfl (by kernel_rfl) (by kernel_rfl) (by kernel_rfl) (fun _ _ _ h => h) (Or.inl ⟨by rfl, ?hyrb47⟩) (by assumption) ?restrb47
            case hyrb47 => (intro w hSw; (try dsimp only at hSw); go_simp <;> with_reducible rfl)
            try simp only [List.getElem_toArray, List.getElem_cons_succ, List.getElem_cons_zero, Act.put, List.setIfInBounds_toArray, List.set_cons_zero, List.set_cons_succ]
            refine wpAnyH_take (i := 48) (v := ?vrb48) rfl (by kernel_rfl) (by kernel_rfl) (by kernel_rfl) (fun _ _ _ h => h) (Or.inl ⟨by rfl, ?hyrb48⟩) (by assumption) ?restrb48
            case hyrb48 => (intro w hSw; (try dsimp only at hSw); go_simp <;> with_reducible rfl)
            try simp only [List.getElem_toArray, List.getElem_cons_succ, List.getElem_cons_zero, Act.put, List.setIfInBounds_toArray, List.set_cons_zero, List.set_cons_succ]
            refine wpAnyH_done (by kernel_rfl) ?_ _
            obtain ⟨W6, hW6⟩ : ∃ W : World, W = v1 := ⟨_, rfl⟩
            rw [← hW6] at HB1v ⊢
            have H6 := Lib.hid (H5.out.below HB1v.out)
            have HX6 := Lib.hid (HX5.out.keep HB1v.out)
            have HF6 := Lib.hid (HF5.out.step (RanS.of_below HB1v.out))
            clear hW6 hHeld
            have HPM : Hid (ps.length + 1 ≤ maxLen ∧ (ps.length + 1) * 320 ≤ 140737488355328) := Lib.hid (by have := HPK.out; have := HLL.out; unfold maxLen; omega)
            obtain ⟨i0, hi, hz0, hz1, hz2⟩ := info_parts infoInf3
            have HNEWS := Lib.hid (show ∀ j u, (z.vals hF)[j]? = some u → (W6.alloc (.cells (z.vals hF).toArray 46)).cell? ((⟨W6.heap.size, 0, none⟩ : Addr).add j) = some u from fun j u hu => by
              rw [Addr.add_mid, Nat.zero_add]
              exact (IBox.cell (show IBox (W6.alloc (.cells (z.vals hF).toArray 46)) W6.heap.size z hF from World.alloc_heap_new _ _) j).trans hu)
            have h6row := HX6.out
            go_wp2_with (first
              | (refine wpList_load_row rfl 46 (.tmp 7) rfl bX rfl 46 _ (0, 0) _ h6row Tryz.underlying46 rfl HKR.out ?_)
              | (refine Go.Great.wpList_buildSliceTo rfl 22 46 1 _ rfl W6.heap.size rfl (some 94) rfl Tryz.underlying22 (z.vals hF).toArray (by kernel_rfl) ?_)
              | (at_builtin; refine wpList_append_lies _ rfl (.tmp 92) (.tmp 94) 22 rfl w.heap.size 46 i0 _ 25 320 Tryz.underlying22 hi hz0 hz1 hz2 rfl (by decide) _ ps.length (flatI ps) rfl (H6.out.below (below_one _ _)).inr.row ⟨W6.heap.size, 0, none⟩ 1 1 (z.vals hF) rfl rfl HNEWS.out (HKS.out _ _) (by decide) (HPM.out).1 (HPM.out).2 (by have := (H6.out.below (below_one W6 (.cells (z.vals hF).toArray 46))).bel.size; exact this) _ rfl ?_))
            intro g cap w7 hown hgb hat hlt7
            obtain ⟨P7, hst7⟩ := (H6.out.below (below_one W6 (.cells (z.vals hF).toArray 46))).push (HF6.out.step (RanS.of_below (below_one _ _))) rfl hown hgb (by rcases hat with q | q; exact Or.inl q; exact Or.inr (by rw [World.size_alloc]; exact q)) hlt7
            have H7 := Lib.hid hst7
            have HS7 : Hid ((ps ++ [(z, hF)]).map (·.1) = (M ++ [(bE, fixI M x, hE)]).map (·.2.1)) := Lib.hid (by rw [List.map_append, List.map_append, HSAME.out]; simp [HZ.out.1])
            obtain ⟨ps7, hps7⟩ : ∃ q, q = ps ++ [(z, hF)] := ⟨_, rfl⟩
            have HL7 : Hid (ps7.length = ps.length + 1 ∧ ps7.length ≤ k + 1) := Lib.hid (by have := HPK.out; rw [hps7, List.length_append, List.length_singleton]; omega)
            obtain ⟨M7, hM7⟩ : ∃ q, q = M ++ [(bE, fixI M x, hE)] := ⟨_, rfl⟩
            obtain ⟨av7, hav7⟩ : ∃ q : Option Addr, q = some ⟨g, 0, none⟩ := ⟨_, rfl⟩
            rw [← hps7, ← hM7] at H7 HS7
            clear hst7 hown hgb hat hlt7 hps7 hM7 h6row hi hz0 hz1 hz2 HNEWS H6 HX6 HF6 HPM
            have hln : ps.length + 1 = ps7.length := HL7.out.1.symm
            rw [← hav7, hln] at H7
            rw [← hav7, hln]
            clear hln hav7
            have HLS := Lib.hid (show Calls Tryz.prog 17 #[.pointer (some ⟨e, 0, none⟩)] w7 (fun y w' => ∃ a c, y = .returned (.slice a ps7.length c) ∧ Below w7.heap.size w7 w') from (list_any H7.out.env.env).mono (fun y w' h => by
              obtain ⟨v', rfl, hr, hb⟩ := h
              obtain ⟨a, c, rfl⟩ := row_slice hr
              exact ⟨a, c, by rw [same_len HS7.out], hb⟩))
            have HPK8 : Hid (ps7.length ≤ k + 1) := Lib.hid (HL7.out.2)
            go_wp2_with fail
            refine HLS.out.mono ?_
            rintro y w8 ⟨al, cl, rfl, b8⟩
            have H8 := Lib.hid (H7.out.below b8)
            clear b8 H7 HLS
            go_upto_region 17 with fail
            go_loopw [9] (fun vi wr' => StyIn w P7 e M7 mo' v' (.slice av7 ps7.length cap) ps7 vi wr') (fun i _ => ps7.length - (intOf i).toNat)
            case atStart => exact ⟨0, rfl, by omega, H8.out⟩
            case round =>
              obtain ⟨j, rfl, hj, hst9⟩ := hrel
              have H9 := Lib.hid hst9
              clear hst9
              by_cases hlj : j < ps7.length
              · obtain ⟨g9, cap9, hv9, hrg9, hg9, hP9⟩ := H9.out.inr.at hlj
                obtain ⟨p9, hp9, hlk9, he9⟩ := H9.out.look HS7.out hlj
                obtain ⟨u, hu⟩ : ∃ u, u = ps7[j] := ⟨_, rfl⟩
                rw [← hu] at hrg9 hlk9 he9
                have HFU := Lib.hid (show FirmI P7 _ u.1 u.2 from H9.out.inr.firm u (hu ▸ List.getElem_mem hlj))
                have HU20 : Hid (u.1.rules.length ≤ 1000) := Lib.hid (by have := (H9.out.good p9 hp9).1; rw [he9] at this; omega)
                have HNU : Hid (u.1.name.size ≤ maxLen) := Lib.hid (by have := HFU.out.fit.name; unfold maxLen; omega)
                have HLK := Lib.hid hlk9
                have HE9 := Lib.hid he9
                have HR9 := Lib.hid hrg9
                have HLJ := Lib.hid hlj
                have HGP : Hid (g9 < wr.heap.size) := Lib.hid hg9
                have hwj : wrap64 ((j : Int) + 1) = (j : Int) + 1 := IntWalk.wrap64_in _ (by have := HPK8.out; have := HLL.out; have := HLT.out; omega)
                have hwj2 : IntKind.i64.wrap ((j : Int) + 1) = (j : Int) + 1 := IntWalk.i64_in _ (by have := HPK8.out; have := HLL.out; have := HLT.out; omega)
                have hv10 : av7 = some ⟨g9, 0, none⟩ := by injection hv9
                clear hv9
                subst hv10
                have n9 : wr.cell? ⟨g9, j * 25 + 1, none⟩ = some (.string u.1.name) := HR9.out 1 _ rfl
                clear hrg9 hlk9 he9 hu hp9 hg9 hP9
                go_wp2_with fail
                refine (findP_any H9.out.env _ HNU.out H9.out.hold).mono ?_
                intro y w10 hfd
                obtain ⟨hG, rfl, hfG, b10⟩ := hfd.yes HLK.out
                rw [HE9.out] at hfG ⊢
                have H10 := Lib.hid (H9.out.below b10)
                have HR10 := Lib.hid (range_below HR9.out b10 HGP.out)
                have HGP10 : Hid (g9 < w10.heap.size) := Lib.hid (Nat.lt_of_lt_of_le HGP.out b10.size)
                have HFU10 := Lib.hid (HFU.out.step (RanS.of_below b10))
                have HFG := Lib.hid hfG
                clear hfd hfG b10 n9 H9 HR9 HFU HGP
                dsimp only
                go_upto_region 20 with (refine wpList_store_row rfl 46 (.tmp 10) (.tmp 116) rfl w10.heap.size _ rfl rfl 46 Inf.zeros (World.alloc_heap_new _ _) HKR.out (HKZ.out _ _) (HKO.out _ _) ?_)
                rw [World.setRow_alloc_new]
                obtain ⟨W11, hW11⟩ : ∃ W, W = w10.alloc (.cells (u.1.vals hG).toArray 46) := ⟨_, rfl⟩
                have hb11 : Below w10.heap.size w10 W11 := hW11 ▸ below_one _ _
                have H11 := Lib.hid (H10.out.below hb11)
                have HR11 := Lib.hid (range_below HR10.out hb11 HGP10.out)
                have HGP11 : Hid (g9 < W11.heap.size) := Lib.hid (Nat.lt_of_lt_of_le HGP10.out hb11.size)
                have HFU11 := Lib.hid (HFU10.out.step (RanS.of_below hb11)).here
                have HFG11 := Lib.hid (HFG.out.step (RanS.of_below hb11)).here
                have HY11 := Lib.hid (show IBox W11 w10.heap.size u.1 hG from hW11 ▸ World.alloc_heap_new _ _)
                obtain ⟨bY, hbY⟩ : ∃ b, b = w10.heap.size := ⟨_, rfl⟩
                rw [← hbY] at HY11
                rw [← hW11, ← hbY]
                clear hW11 hbY hb11 H10 HR10 HFU10 HFG HGP10
                have HB11 : Hid (Below W11.heap.size W11 W11.drew) := Lib.hid (Below.refl _ _).drew
                have HSM := Lib.hid (fun (W : World) (hW : Below W11.heap.size W11 W) => same7_any u.1 hG u.2 W (Inf.carry HFG11.out hW) (Inf.carry HFU11.out hW) HU20.out)
                go_wp2_with fail
                refine wp_region_held_drew (S := fun w' => w'.rangeAt bY 0 (u.1.vals hG) ∧ w'.rangeAt g9 (j * 25) (u.1.vals u.2)) (by kernel_rfl) (⟨(HY11.out.keep HB11.out).range, range_below HR11.out HB11.out HGP11.out⟩) (fun hHeld => ?_)
                refine wpAnyH_take (i := 0) (v := ?vrc210) rfl (by kernel_rfl) (by kernel_rfl) (by kernel_rfl) (fun _ _ _ h => h) (Or.inl ⟨by rfl, ?hyrc210⟩) (by assumption) ?restrc210
                case hyrc210 => (intro w hSw; (try dsimp only at hSw); go_simp <;> with_reducible rfl)
                try simp only [List.getElem_toArray, List.getElem_cons_zero, Act.put, List.setIfInBounds_toArray, List.set_cons_zero, List.set_cons_succ]
                refine wpAnyH_take (i := 1) (v := ?vrc211) rfl (by kernel_rfl) (by kernel_rfl) (by kernel_rfl) (fun _ _ _ h => h) (Or.inl ⟨by rfl, ?hyrc211⟩) (by assumption) ?restrc211
                case hyrc211 => (intro w hSw; (try dsimp only at hSw); go_simp <;> with_reducible rfl)
                try simp only [List.getElem_toArray, List.getElem_cons_succ, List.getElem_cons_zero, Act.put, List.setIfInBounds_toArray, List.set_cons_zero, List.set_cons_succ]
                refine wpAnyH_take (i := 2) (v := ?vrc212) rfl (by kernel_rfl) (by kernel_rfl) (by kernel_rfl) (fun _ _ _ h => h) (Or.inl ⟨by rfl, ?hyrc212⟩) (by assumption) ?restrc212
                case hyrc212 => (intro w hSw; (try dsimp only at hSw); go_simp <;> with_reducible rfl)
                try simp only [List.getElem_toArray, List.getElem_cons_succ, List.getElem_cons_zero, Act.put, List.setIfInBounds_toArray, List.set_cons_zero, List.set_cons_succ]
                refine wpAnyH_take (i := 3) (v := .agg (u.1.vals hG).toArray) rfl (by kernel_rfl) (by kernel_rfl) (by kernel_rfl) (fun _ _ _ h => h) (yieldsIf_load_mid rfl 46 (.tmp 10) rfl bY 0 rfl (u.1.vals hG) _ (fun _ h => h.1) Tryz.underlying46 rfl HKL.out) (by assumption) ?_
                try simp only [List.getElem_toArray, List.getElem_cons_succ, List.getElem_cons_zero, Act.put, List.setIfInBounds_toArray, List.set_cons_zero, List.set_cons_succ]
                refine wpAnyH_take (i := 4) (v := ?vrc214) rfl (by kernel_rfl) (by kernel_rfl) (by kernel_rfl) (fun _ _ _ h => h) (Or.inl ⟨by rfl, ?hyrc214⟩) (by assumption) ?restrc214
                case hyrc214 => (intro w hSw; (try dsimp only at hSw); go_simp <;> with_reducible rfl)
                try simp only [List.getElem_toArray, List.getElem_cons_succ, List.getElem_cons_zero, Act.put, List.setIfInBounds_toArray, List.set_cons_zero, List.set_cons_succ]
                refine wpAnyH_take (i := 5) (v := ?vrc215) rfl (by kernel_rfl) (by kernel_rfl) (by kernel_rfl) (fun _ _ _ h => h) (Or.inl ⟨by rfl, ?hyrc215⟩) (by assumption) ?restrc215
                case hyrc215 => (intro w hSw; (try dsimp only at hSw); go_simp <;> with_reducible rfl)
                try simp only [List.getElem_toArray, List.getElem_cons_succ, List.getElem_cons_zero, Act.put, List.setIfInBounds_toArray, List.set_cons_zero, List.set_cons_succ]
                refine wpAnyH_take (i := 6) (v := ?vrc216) rfl (by kernel_rfl) (by kernel_rfl) (by kernel_rfl) (fun _ _ _ h => h) (Or.inl ⟨by rfl, ?hyrc216⟩) (by assumption) ?restrc216
                case hyrc216 => (intro w hSw; (try dsimp only at hSw); go_simp <;> with_reducible rfl)
                try simp only [List.getElem_toArray, List.getElem_cons_succ, List.getElem_cons_zero, Act.put, List.setIfInBounds_toArray, List.set_cons_zero, List.set_cons_succ]
                refine wpAnyH_take (i := 7) (v := .agg (u.1.vals u.2).toArray) rfl (by kernel_rfl) (by kernel_rfl) (by kernel_rfl) (fun _ _ _ h => h) (yieldsIf_load_mid rfl 46 (.tmp 124) rfl g9 (j * 25) rfl (u.1.vals u.2) _ (fun _ h => h.2) Tryz.underlying46 rfl HKL.out) (by assumption) ?_
                try simp only [List.getElem_toArray, List.getElem_cons_succ, List.getElem_cons_zero, Act.put, List.setIfInBounds_toArray, List.set_cons_zero, List.set_cons_succ]
                refine wpAnyH_ready (rs := [8]) (by kernel_rfl) (by simp) ?_
                refine AllReadyH.cons rfl (fun K hK => ?_) AllReadyH.nil
                go_simp
                refine (HSM.out _ HB11.out).mono ?_
                rintro y v3 ⟨rfl, c3⟩
                have HB12 := Lib.hid (Trm.go HB11.out c3)
                clear c3
                refine hK.out _ _ (⟨(HY11.out.keep HB12.out).range, range_below HR11.out HB12.out HGP11.out⟩) (fun hHeld => ?_)
                clear hK K
                try simp only [List.getElem_toArray, List.getElem_cons_succ, List.getElem_cons_zero, Act.put, List.setIfInBounds_toArray, List.set_cons_zero, List.set_cons_succ]
                refine wpAnyH_take (i := 9) (v := ?vrc219) rfl (by kernel_rfl) (by kernel_rfl) (by kernel_rfl) (fun _ _ _ h => h) (Or.inl ⟨by rfl, ?hyrc219⟩) (by assumption) ?restrc219
                case hyrc219 => (intro w hSw; (try dsimp only at hSw); go_simp <;> with_reducible rfl)
                try simp only [List.getElem_toArray, List.getElem_cons_succ, List.getElem_cons_zero, Act.put, List.setIfInBounds_toArray, List.set_cons_zero, List.set_cons_succ]
                refine wpAnyH_take (i := 10) (v := ?vrc2110) rfl (by kernel_rfl) (by kernel_rfl) (by kernel_rfl) (fun _ _ _ h => h) (Or.inl ⟨by rfl, ?hyrc2110⟩) (by assumption) ?restrc2110
                case hyrc2110 => (intro w hSw; (try dsimp only at hSw); go_simp <;> with_reducible rfl)
                try simp only [List.getElem_toArray, List.getElem_cons_succ, List.getElem_cons_zero, Act.put, List.setIfInBounds_toArray, List.set_cons_zero, List.set_cons_succ]
                refine wpAnyH_done (by kernel_rfl) ?_ _
                have H12 := Lib.hid (H11.out.below HB12.out)
                go_wp2_with fail
                go_roundw
                case rel => exact ⟨j + 1, by first | rfl | (rw [hwj]; rfl), HLJ.out, H12.out⟩
                case measure => first | exact less_step rfl HLJ.out | exact less_step hwj HLJ.out
              · have H13 := Lib.hid H9.out
                clear H9
                go_wp2_with fail
                go_roundw
                case rel => exact ⟨k + 1, M7, P7, mo', v', ps7, by first | rfl | (rw [hwk]; rfl), HLT.out, HPK8.out, HS7.out, H13.out⟩
                case measure => first | exact less_step rfl HLT.out | exact less_step hwk HLT.out
        · have hM' := hno h0
          subst hM'
          obtain ⟨zc, hzc⟩ : ∃ q, q = addA M' [x] := ⟨_, rfl⟩
          rw [← hzc] at h0 ⊢
          have hz1 : (zc == 0) = false := by simpa using h0
          have hz2 : (zc != 0) = true := by simpa using h0
          clear hyes hno h0 hzc
          go_wp2_with fail
          refine (findP_any H3.out.env _ HNS.out H3.out.hold).mono ?_
          intro y w4 hfd
          obtain ⟨z, hF, bb, rfl, b4⟩ := hfd.form
          have H4 := Lib.hid (H3.out.below b4)
          clear hfd b4 H3 n3
          dsimp only
          go_upto_region 10 with (refine wpList_store_row rfl 46 (.tmp 7) (.tmp 39) rfl w4.heap.size _ rfl rfl 46 Inf.zeros (World.alloc_heap_new _ _) HKR.out (HKZ.out _ _) (HKO.out _ _) ?_)
          rw [World.setRow_alloc_new]
          obtain ⟨W5, hW5⟩ : ∃ W, W = w4.alloc (.cells (z.vals hF).toArray 46) := ⟨_, rfl⟩
          have H5 := Lib.hid (H4.out.below (show Below w4.heap.size w4 W5 from hW5 ▸ below_one _ _))
          rw [← hW5]
          clear hW5 H4
          have HLS := Lib.hid (show Calls Tryz.prog 17 #[.pointer (some ⟨e, 0, none⟩)] W5 (fun y w' => ∃ a c, y = .returned (.slice a ps.length c) ∧ Below W5.heap.size W5 w') from (list_any H5.out.env.env).mono (fun y w' h => by
            obtain ⟨v', rfl, hr, hb⟩ := h
            obtain ⟨a, c, rfl⟩ := row_slice hr
            exact ⟨a, c, by rw [same_len HSAME.out], hb⟩))
          have HPK8 : Hid (ps.length ≤ k + 1) := Lib.hid (by have := HPK.out; omega)
          go_wp2_with fail
          refine HLS.out.mono ?_
          rintro y w8 ⟨al, cl, rfl, b8⟩
          have H8 := Lib.hid (H5.out.below b8)
          clear b8 H5 HLS
          go_upto_region 17 with fail
          go_loopw [9] (fun vi wr' => StyIn w P' e M' mo' v' (.slice av ps.length cv) ps vi wr') (fun i _ => ps.length - (intOf i).toNat)
          case atStart => exact ⟨0, rfl, by omega, H8.out⟩
          case round =>
            obtain ⟨j, rfl, hj, hst9⟩ := hrel
            have H9 := Lib.hid hst9
            clear hst9
            by_cases hlj : j < ps.length
            · obtain ⟨g9, cap9, hv9, hrg9, hg9, hP9⟩ := H9.out.inr.at hlj
              obtain ⟨p9, hp9, hlk9, he9⟩ := H9.out.look HSAME.out hlj
              obtain ⟨u, hu⟩ : ∃ u, u = ps[j] := ⟨_, rfl⟩
              rw [← hu] at hrg9 hlk9 he9
              have HFU := Lib.hid (show FirmI P' _ u.1 u.2 from H9.out.inr.firm u (hu ▸ List.getElem_mem hlj))
              have HU20 : Hid (u.1.rules.length ≤ 1000) := Lib.hid (by have := (H9.out.good p9 hp9).1; rw [he9] at this; omega)
              have HNU : Hid (u.1.name.size ≤ maxLen) := Lib.hid (by have := HFU.out.fit.name; unfold maxLen; omega)
              have HLK := Lib.hid hlk9
              have HE9 := Lib.hid he9
              have HR9 := Lib.hid hrg9
              have HLJ := Lib.hid hlj
              have HGP : Hid (g9 < wr.heap.size) := Lib.hid hg9
              have hwj : wrap64 ((j : Int) + 1) = (j : Int) + 1 := IntWalk.wrap64_in _ (by have := HPK8.out; have := HLL.out; have := HLT.out; omega)
              have hwj2 : IntKind.i64.wrap ((j : Int) + 1) = (j : Int) + 1 := IntWalk.i64_in _ (by have := HPK8.out; have := HLL.out; have := HLT.out; omega)
              have hv10 : av = some ⟨g9, 0, none⟩ := by injection hv9
              clear hv9
              subst hv10
              have n9 : wr.cell? ⟨g9, j * 25 + 1, none⟩ = some (.string u.1.name) := HR9.out 1 _ rfl
              clear hrg9 hlk9 he9 hu hp9 hg9 hP9
              go_wp2_with fail
              refine (findP_any H9.out.env _ HNU.out H9.out.hold).mono ?_
              intro y w10 hfd
              obtain ⟨hG, rfl, hfG, b10⟩ := hfd.yes HLK.out
              rw [HE9.out] at hfG ⊢
              have H10 := Lib.hid (H9.out.below b10)
              have HR10 := Lib.hid (range_below HR9.out b10 HGP.out)
              have HGP10 : Hid (g9 < w10.heap.size) := Lib.hid (Nat.lt_of_lt_of_le HGP.out b10.size)
              have HFU10 := Lib.hid (HFU.out.step (RanS.of_below b10))
              have HFG := Lib.hid hfG
              clear hfd hfG b10 n9 H9 HR9 HFU HGP
              dsimp only
              go_upto_region 20 with (refine wpList_store_row rfl 46 (.tmp 10) (.tmp 116) rfl w10.heap.size _ rfl rfl 46 Inf.zeros (World.alloc_heap_new _ _) HKR.out (HKZ.out _ _) (HKO.out _ _) ?_)
              rw [World.setRow_alloc_new]
              obtain ⟨W11, hW11⟩ : ∃ W, W = w10.alloc (.cells (u.1.vals hG).toArray 46) := ⟨_, rfl⟩
              have hb11 : Below w10.heap.size w10 W11 := hW11 ▸ below_one _ _
              have H11 := Lib.hid (H10.out.below hb11)
              have HR11 := Lib.hid (range_below HR10.out hb11 HGP10.out)
              have HGP11 : Hid (g9 < W11.heap.size) := Lib.hid (Nat.lt_of_lt_of_le HGP10.out hb11.size)
              have HFU11 := Lib.hid (HFU10.out.step (RanS.of_below hb11)).here
              have HFG11 := Lib.hid (HFG.out.step (RanS.of_below hb11)).here
              have HY11 := Lib.hid (show IBox W11 w10.heap.size u.1 hG from hW11 ▸ World.alloc_heap_new _ _)
              obtain ⟨bY, hbY⟩ : ∃ b, b = w10.heap.size := ⟨_, rfl⟩
              rw [← hbY] at HY11
              rw [← hW11, ← hbY]
              clear hW11 hbY hb11 H10 HR10 HFU10 HFG HGP10
              have HB11 : Hid (Below W11.heap.size W11 W11.drew) := Lib.hid (Below.refl _ _).drew
              have HSM := Lib.hid (fun (W : World) (hW : Below W11.heap.size W11 W) => same7_any u.1 hG u.2 W (Inf.carry HFG11.out hW) (Inf.carry HFU11.out hW) HU20.out)
              go_wp2_with fail
              refine wp_region_held_drew (S := fun w' => w'.rangeAt bY 0 (u.1.vals hG) ∧ w'.rangeAt g9 (j * 25) (u.1.vals u.2)) (by kernel_rfl) (⟨(HY11.out.keep HB11.out).range, range_below HR11.out HB11.out HGP11.out⟩) (fun hHeld => ?_)
              refine wpAnyH_take (i := 0) (v := ?vrc250) rfl (by kernel_rfl) (by kernel_rfl) (by kernel_rfl) (fun _ _ _ h => h) (Or.inl ⟨by rfl, ?hyrc250⟩) (by assumption) ?restrc250
              case hyrc250 => (intro w hSw; (try dsimp only at hSw); go_simp <;> with_reducible rfl)
              try simp only [List.getElem_toArray, List.getElem_cons_zero, Act.put, List.setIfInBounds_toArray, List.set_cons_zero, List.set_cons_succ]
              refine wpAnyH_take (i := 1) (v := ?vrc251) rfl (by kernel_rfl) (by kernel_rfl) (by kernel_rfl) (fun _ _ _ h => h) (Or.inl ⟨by rfl, ?hyrc251⟩) (by assumption) ?restrc251
              case hyrc251 => (intro w hSw; (try dsimp only at hSw); go_simp <;> with_reducible rfl)
              try simp only [List.getElem_toArray, List.getElem_cons_succ, List.getElem_cons_zero, Act.put, List.setIfInBounds_toArray, List.set_cons_zero, List.set_cons_succ]
              refine wpAnyH_take (i := 2) (v := ?vrc252) rfl (by kernel_rfl) (by kernel_rfl) (by kernel_rfl) (fun _ _ _ h => h) (Or.inl ⟨by rfl, ?hyrc252⟩) (by assumption) ?restrc252
              case hyrc252 => (intro w hSw; (try dsimp only at hSw); go_simp <;> with_reducible rfl)
              try simp only [List.getElem_toArray, List.getElem_cons_succ, List.getElem_cons_zero, Act.put, List.setIfInBounds_toArray, List.set_cons_zero, List.set_cons_succ]
              refine wpAnyH_take (i := 3) (v := .agg (u.1.vals hG).toArray) rfl (by kernel_rfl) (by kernel_rfl) (by kernel_rfl) (fun _ _ _ h => h) (yieldsIf_load_mid rfl 46 (.tmp 10) rfl bY 0 rfl (u.1.vals hG) _ (fun _ h => h.1) Tryz.underlying46 rfl HKL.out) (by assumption) ?_
              try simp only [List.getElem_toArray, List.getElem_cons_succ, List.getElem_cons_zero, Act.put, List.setIfInBounds_toArray, List.set_cons_zero, List.set_cons_succ]
              refine wpAnyH_take (i := 4) (v := ?vrc254) rfl (by kernel_rfl) (by kernel_rfl) (by kernel_rfl) (fun _ _ _ h => h) (Or.inl ⟨by rfl, ?hyrc254⟩) (by assumption) ?restrc254
              case hyrc254 => (intro w hSw; (try dsimp only at hSw); go_simp <;> with_reducible rfl)
              try simp only [List.getElem_toArray, List.getElem_cons_succ, List.getElem_cons_zero, Act.put, List.setIfInBounds_toArray, List.set_cons_zero, List.set_cons_succ]
              refine wpAnyH_take (i := 5) (v := ?vrc255) rfl (by kernel_rfl) (by kernel_rfl) (by kernel_rfl) (fun _ _ _ h => h) (Or.inl ⟨by rfl, ?hyrc255⟩) (by assumption) ?restrc255
              case hyrc255 => (intro w hSw; (try dsimp only at hSw); go_simp <;> with_reducible rfl)
              try simp only [List.getElem_toArray, List.getElem_cons_succ, List.getElem_cons_zero, Act.put, List.setIfInBounds_toArray, List.set_cons_zero, List.set_cons_succ]
              refine wpAnyH_take (i := 6) (v := ?vrc256) rfl (by kernel_rfl) (by kernel_rfl) (by kernel_rfl) (fun _ _ _ h => h) (Or.inl ⟨by rfl, ?hyrc256⟩) (by assumption) ?restrc256
              case hyrc256 => (intro w hSw; (try dsimp only at hSw); go_simp <;> with_reducible rfl)
              try simp only [List.getElem_toArray, List.getElem_cons_succ, List.getElem_cons_zero, Act.put, List.setIfInBounds_toArray, List.set_cons_zero, List.set_cons_succ]
              refine wpAnyH_take (i := 7) (v := .agg (u.1.vals u.2).toArray) rfl (by kernel_rfl) (by kernel_rfl) (by kernel_rfl) (fun _ _ _ h => h) (yieldsIf_load_mid rfl 46 (.tmp 124) rfl g9 (j * 25) rfl (u.1.vals u.2) _ (fun _ h => h.2) Tryz.underlying46 rfl HKL.out) (by assumption) ?_
              try simp only [List.getElem_toArray, List.getElem_cons_succ, List.getElem_cons_zero, Act.put, List.setIfInBounds_toArray, List.set_cons_zero, List.set_cons_succ]
              refine wpAnyH_ready (rs := [8]) (by kernel_rfl) (by simp) ?_
              refine AllReadyH.cons rfl (fun K hK => ?_) AllReadyH.nil
              go_simp
              refine (HSM.out _ HB11.out).mono ?_
              rintro y v3 ⟨rfl, c3⟩
              have HB12 := Lib.hid (Trm.go HB11.out c3)
              clear c3
              refine hK.out _ _ (⟨(HY11.out.keep HB12.out).range, range_below HR11.out HB12.out HGP11.out⟩) (fun hHeld => ?_)
              clear hK K
              try simp only [List.getElem_toArray, List.getElem_cons_succ, List.getElem_cons_zero, Act.put, List.setIfInBounds_toArray, List.set_cons_zero, List.set_cons_succ]
              refine wpAnyH_take (i := 9) (v := ?vrc259) rfl (by kernel_rfl) (by kernel_rfl) (by kernel_rfl) (fun _ _ _ h => h) (Or.inl ⟨by rfl, ?hyrc259⟩) (by assumption) ?restrc259
              case hyrc259 => (intro w hSw; (try dsimp only at hSw); go_simp <;> with_reducible rfl)
              try simp only [List.getElem_toArray, List.getElem_cons_succ, List.getElem_cons_zero, Act.put, List.setIfInBounds_toArray, List.set_cons_zero, List.set_cons_succ]
              refine wpAnyH_take (i := 10) (v := ?vrc2510) rfl (by kernel_rfl) (by kernel_rfl) (by kernel_rfl) (fun _ _ _ h => h) (Or.inl ⟨by rfl, ?hyrc2510⟩) (by assumption) ?restrc2510
              case hyrc2510 => (intro w hSw; (try dsimp only at hSw); go_simp <;> with_reducible rfl)
              try simp only [List.getElem_toArray, List.getElem_cons_succ, List.getElem_cons_zero, Act.put, List.setIfInBounds_toArray, List.set_cons_zero, List.set_cons_succ]
              refine wpAnyH_done (by kernel_rfl) ?_ _
              have H12 := Lib.hid (H11.out.below HB12.out)
              go_wp2_with fail
              go_roundw
              case rel => exact ⟨j + 1, by first | rfl | (rw [hwj]; rfl), HLJ.out, H12.out⟩
              case measure => first | exact less_step rfl HLJ.out | exact less_step hwj HLJ.out
            · have H13 := Lib.hid H9.out
              clear H9
              go_wp2_with fail
              go_roundw
              case rel => exact ⟨k + 1, M', P', mo', v', ps, by first | rfl | (rw [hwk]; rfl), HLT.out, HPK8.out, HSAME.out, H13.out⟩
              case measure => first | exact less_step rfl HLT.out | exact less_step hwk HLT.out
      · have HLL : Hid (l.length ≤ 40) := Lib.hid HF.out.1
        have HP40 : Hid (ps.length ≤ 40) := Lib.hid (by have := HPK.out; have := HLL.out; omega)
        go_upto_region 23 with fail
        go_loopw [12] (fun vi wr' => StyIn w P e M mo v (.slice av ps.length cv) ps vi wr') (fun i _ => ps.length - (intOf i).toNat)
        case atStart => exact ⟨0, rfl, by omega, H0.out⟩
        case round =>
          obtain ⟨j, rfl, hj, hst9⟩ := hrel
          have H9 := Lib.hid hst9
          clear hst9
          by_cases hlj : j < ps.length
          · obtain ⟨g9, cap9, hv9, hrg9, hg9, hP9⟩ := H9.out.inr.at hlj
            obtain ⟨p9, hp9, hlk9, he9⟩ := H9.out.look HSAME.out hlj
            obtain ⟨u, hu⟩ : ∃ u, u = ps[j] := ⟨_, rfl⟩
            rw [← hu] at hrg9 hlk9 he9
            have HFU := Lib.hid (show FirmI P _ u.1 u.2 from H9.out.inr.firm u (hu ▸ List.getElem_mem hlj))
            have hgood := H9.out.good p9 hp9
            rw [he9] at hgood
            have HGOOD := Lib.hid hgood
            have HLJ := Lib.hid hlj
            have HGP : Hid (g9 < wr.heap.size) := Lib.hid hg9
            have HR9 := Lib.hid hrg9
            have hwj : wrap64 ((j : Int) + 1) = (j : Int) + 1 := IntWalk.wrap64_in _ (by have := HP40.out; omega)
            have hwj2 : IntKind.i64.wrap ((j : Int) + 1) = (j : Int) + 1 := IntWalk.i64_in _ (by have := HP40.out; omega)
            have hv10 : av = some ⟨g9, 0, none⟩ := by injection hv9
            clear hv9
            subst hv10
            have c0 : wr.cell? ⟨g9, j * 25, none⟩ = some (.int .u8 u.1.kind) := HR9.out 0 _ rfl
            have c13 : wr.cell? ⟨g9, j * 25 + 13, none⟩ = some (.int .i64 u.1.height) := HR9.out 13 _ rfl
            clear hrg9 hlk9 he9 hu hp9 hg9 hP9 hgood
            by_cases hk2 : u.1.kind = 2
            · have hkb : (u.1.kind == 2) = true := by simp [hk2]
              have hkb2 : (u.1.kind != 2) = false := by simp [hk2]
              obtain ⟨hm, _, hh⟩ := HGOOD.out.2.2 hk2
              have HMX := Lib.hid (maxH_le (L := M) (l := u.1.va.nms) (M := 4096) (by omega) (fun p hp => by have := (H9.out.env.env.hgt p hp).2; have := H9.out.env.env.few; omega))
              have HHT := Lib.hid (fun (W : World) (hW : Below wr.heap.size wr W) => height_any (H9.out.below hW).env.env u.1.va u.2.va ((HFU.out.step (RanS.of_below hW)).va.here) hm)
              obtain ⟨X, hX⟩ : ∃ X, X = maxH M u.1.va.nms := ⟨_, rfl⟩
              rw [← hX] at HMX HHT hh
              have h13 : u.1.height = 1 + X := by omega
              rw [h13] at c13
              have hw1 : wrap64 (1 + X) = 1 + X := IntWalk.wrap64_in _ (by have := HMX.out; omega)
              have hw2 : IntKind.i64.wrap (1 + X) = 1 + X := IntWalk.i64_in _ (by have := HMX.out; omega)
              have HC13 := Lib.hid (fun (W : World) (hW : Below wr.heap.size wr W) => ((⟨by have h := range_below HR9.out hW HGP.out 13 _ rfl; rw [h13] at h; exact h, range_below HR9.out hW HGP.out 8 _ rfl, range_below HR9.out hW HGP.out 9 _ rfl, range_below HR9.out hW HGP.out 10 _ rfl, range_below HR9.out hW HGP.out 11 _ rfl, range_below HR9.out hW HGP.out 12 _ rfl⟩) : W.cell? ⟨g9, j * 25 + 13, none⟩ = some (.int .i64 (1 + X)) ∧ W.cell? ⟨g9, j * 25 + 8, none⟩ = some (.int .u8 u.1.va.k) ∧ W.cell? ⟨g9, j * 25 + 9, none⟩ = some (.int .i64 u.1.va.n) ∧ W.cell? ⟨g9, j * 25 + 10, none⟩ = some (.string u.1.va.s) ∧ W.cell? ⟨g9, j * 25 + 11, none⟩ = some (.slice u.2.va.lo u.1.va.ls.length u.2.va.lc) ∧ W.cell? ⟨g9, j * 25 + 12, none⟩ = some (.slice u.2.va.to u.1.va.ts.length u.2.va.tc)))
              clear hk2 hm hh hX h13
              unfold Tm.val Tm.vals at HHT
              go_upto_region 28 with fail
              clear c0 c13 hkb hkb2
              have HB9 : Hid (Below wr.heap.size wr wr.drew) := Lib.hid (Below.refl _ _).drew
              refine wp_region_held_drew (S := fun w' => w'.cell? ⟨g9, j * 25 + 13, none⟩ = some (.int .i64 (1 + X)) ∧ w'.cell? ⟨g9, j * 25 + 8, none⟩ = some (.int .u8 u.1.va.k) ∧ w'.cell? ⟨g9, j * 25 + 9, none⟩ = some (.int .i64 u.1.va.n) ∧ w'.cell? ⟨g9, j * 25 + 10, none⟩ = some (.string u.1.va.s) ∧ w'.cell? ⟨g9, j * 25 + 11, none⟩ = some (.slice u.2.va.lo u.1.va.ls.length u.2.va.lc) ∧ w'.cell? ⟨g9, j * 25 + 12, none⟩ = some (.slice u.2.va.to u.1.va.ts.length u.2.va.tc)) (by kernel_rfl) (HC13.out _ HB9.out) (fun hHeld => ?_)
              refine wpAnyH_take (i := 0) (v := ?vrd0) rfl (by kernel_rfl) (by kernel_rfl) (by kernel_rfl) (fun _ _ _ h => h) (Or.inl ⟨by rfl, ?hyrd0⟩) (by assumption) ?restrd0
              case hyrd0 => (intro w hSw; (try dsimp only at hSw); go_simp <;> with_reducible rfl)
              try simp only [List.getElem_toArray, List.getElem_cons_zero, Act.put, List.setIfInBounds_toArray, List.set_cons_zero, List.set_cons_succ]
              refine wpAnyH_take (i := 1) (v := ?vrd1) rfl (by kernel_rfl) (by kernel_rfl) (by kernel_rfl) (fun _ _ _ h => h) (Or.inl ⟨by rfl, ?hyrd1⟩) (by assumption) ?restrd1
              case hyrd1 => (intro w hSw; (try dsimp only at hSw); go_simp <;> with_reducible rfl)
              try simp only [List.getElem_toArray, List.getElem_cons_succ, List.getElem_cons_zero, Act.put, List.setIfInBounds_toArray, List.set_cons_zero, List.set_cons_succ]
              refine wpAnyH_take (i := 2) (v := ?vrd2) rfl (by kernel_rfl) (by kernel_rfl) (by kernel_rfl) (fun _ _ _ h => h) (Or.inl ⟨by rfl, ?hyrd2⟩) (by assumption) ?restrd2
              case hyrd2 => (intro w hSw; (try dsimp only at hSw); go_simp <;> with_reducible rfl)
              try simp only [List.getElem_toArray, List.getElem_cons_succ, List.getElem_cons_zero, Act.put, List.setIfInBounds_toArray, List.set_cons_zero, List.set_cons_succ]
              refine wpAnyH_take (i := 3) (v := ?vrd3) rfl (by kernel_rfl) (by kernel_rfl) (by kernel_rfl) (fun _ _ _ h => h) (Or.inl ⟨by rfl, ?hyrd3⟩) (by assumption) ?restrd3
              case hyrd3 => (intro w hSw; (try dsimp only at hSw); go_simp <;> with_reducible rfl)
              try simp only [List.getElem_toArray, List.getElem_cons_succ, List.getElem_cons_zero, Act.put, List.setIfInBounds_toArray, List.set_cons_zero, List.set_cons_succ]
              refine wpAnyH_take (i := 4) (v := ?vrd4) rfl (by kernel_rfl) (by kernel_rfl) (by kernel_rfl) (fun _ _ _ h => h) (Or.inl ⟨by rfl, ?hyrd4⟩) (by assumption) ?restrd4
              case hyrd4 => (intro w hSw; (try dsimp only at hSw); go_simp <;> with_reducible rfl)
              try simp only [List.getElem_toArray, List.getElem_cons_succ, List.getElem_cons_zero, Act.put, List.setIfInBounds_toArray, List.set_cons_zero, List.set_cons_succ]
              refine wpAnyH_take (i := 5) (v := ?vrd5) rfl (by kernel_rfl) (by kernel_rfl) (by kernel_rfl) (fun _ _ _ h => h) (Or.inl ⟨by rfl, ?hyrd5⟩) (by assumption) ?restrd5
              case hyrd5 => (intro w hSw; (try dsimp only at hSw); go_simp <;> with_reducible rfl)
              try simp only [List.getElem_toArray, List.getElem_cons_succ, List.getElem_cons_zero, Act.put, List.setIfInBounds_toArray, List.set_cons_zero, List.set_cons_succ]
              refine wpAnyH_take (i := 6) (v := ?vrd6) rfl (by kernel_rfl) (by kernel_rfl) (by kernel_rfl) (fun _ _ _ h => h) (Or.inl ⟨by rfl, ?hyrd6⟩) (by assumption) ?restrd6
              case hyrd6 => (intro w hSw; (try dsimp only at hSw); go_simp <;> with_reducible rfl)
              try simp only [List.getElem_toArray, List.getElem_cons_succ, List.getElem_cons_zero, Act.put, List.setIfInBounds_toArray, List.set_cons_zero, List.set_cons_succ]
              refine wpAnyH_take (i := 7) (v := ?vrd7) rfl (by kernel_rfl) (by kernel_rfl) (by kernel_rfl) (fun _ _ _ h => h) (Or.inl ⟨by rfl, ?hyrd7⟩) (by assumption) ?restrd7
              case hyrd7 => (intro w hSw; (try dsimp only at hSw); go_simp <;> with_reducible rfl)
              try simp only [List.getElem_toArray, List.getElem_cons_succ, List.getElem_cons_zero, Act.put, List.setIfInBounds_toArray, List.set_cons_zero, List.set_cons_succ]
              refine wpAnyH_take (i := 8) (v := ?vrd8) rfl (by kernel_rfl) (by kernel_rfl) (by kernel_rfl) (fun _ _ _ h => h) (Or.inl ⟨by rfl, ?hyrd8⟩) (by assumption) ?restrd8
              case hyrd8 => (intro w hSw; (try dsimp only at hSw); go_simp <;> with_reducible rfl)
              try simp only [List.getElem_toArray, List.getElem_cons_succ, List.getElem_cons_zero, Act.put, List.setIfInBounds_toArray, List.set_cons_zero, List.set_cons_succ]
              refine wpAnyH_take (i := 9) (v := ?vrd9) rfl (by kernel_rfl) (by kernel_rfl) (by kernel_rfl) (fun _ _ _ h => h) (Or.inl ⟨by rfl, ?hyrd9⟩) (by assumption) ?restrd9
              case hyrd9 => (intro w hSw; (try dsimp only at hSw); go_simp <;> with_reducible rfl)
              try simp only [List.getElem_toArray, List.getElem_cons_succ, List.getElem_cons_zero, Act.put, List.setIfInBounds_toArray, List.set_cons_zero, List.set_cons_succ]
              refine wpAnyH_take (i := 10) (v := ?vrd10) rfl (by kernel_rfl) (by kernel_rfl) (by kernel_rfl) (fun _ _ _ h => h) (Or.inl ⟨by rfl, ?hyrd10⟩) (by assumption) ?restrd10
              case hyrd10 => (intro w hSw; (try dsimp only at hSw); go_simp <;> with_reducible rfl)
              try simp only [List.getElem_toArray, List.getElem_cons_succ, List.getElem_cons_zero, Act.put, List.setIfInBounds_toArray, List.set_cons_zero, List.set_cons_succ]
              refine wpAnyH_ready (rs := [11]) (by kernel_rfl) (by simp) ?_
              refine AllReadyH.cons rfl (fun K hK => ?_) AllReadyH.nil
              go_simp
              refine (HHT.out _ HB9.out).mono ?_
              rintro y v3 ⟨rfl, c3⟩
              have HB10 := Lib.hid (Trm.go HB9.out c3)
              clear c3
              refine hK.out _ _ (HC13.out v3 HB10.out) (fun hHeld => ?_)
              clear hK K
              try simp only [List.getElem_toArray, List.getElem_cons_succ, List.getElem_cons_zero, Act.put, List.setIfInBounds_toArray, List.set_cons_zero, List.set_cons_succ]
              refine wpAnyH_take (i := 12) (v := ?vrd12) rfl (by kernel_rfl) (by kernel_rfl) (by kernel_rfl) (fun _ _ _ h => h) (Or.inl ⟨by rfl, ?hyrd12⟩) (by assumption) ?restrd12
              case hyrd12 => (intro w hSw; (try dsimp only at hSw); go_simp <;> with_reducible rfl)
              try simp only [List.getElem_toArray, List.getElem_cons_succ, List.getElem_cons_zero, Act.put, List.setIfInBounds_toArray, List.set_cons_zero, List.set_cons_succ]
              refine wpAnyH_take (i := 13) (v := ?vrd13) rfl (by kernel_rfl) (by kernel_rfl) (by kernel_rfl) (fun _ _ _ h => h) (Or.inl ⟨by rfl, ?hyrd13⟩) (by assumption) ?restrd13
              case hyrd13 => (intro w hSw; (try dsimp only at hSw); go_simp <;> with_reducible rfl)
              try simp only [List.getElem_toArray, List.getElem_cons_succ, List.getElem_cons_zero, Act.put, List.setIfInBounds_toArray, List.set_cons_zero, List.set_cons_succ]
              refine wpAnyH_done (by kernel_rfl) ?_ _
              have H12 := Lib.hid (H9.out.below HB10.out)
              go_wp2_with fail
              go_roundw
              case rel => exact ⟨j + 1, by first | rfl | (rw [hwj]; rfl), HLJ.out, H12.out⟩
              case measure => first | exact less_step rfl HLJ.out | exact less_step hwj HLJ.out
            · have hkb : (u.1.kind == 2) = false := by simp [hk2]
              have hkb2 : (u.1.kind != 2) = true := by simp [hk2]
              have h13 := HGOOD.out.2.1 hk2
              rw [h13] at c13
              clear hk2 h13
              go_wp2_with fail
              go_roundw
              case rel => exact ⟨j + 1, by first | rfl | (rw [hwj]; rfl), HLJ.out, H9.out⟩
              case measure => first | exact less_step rfl HLJ.out | exact less_step hwj HLJ.out
          · have HB14 := Lib.hid H9.out.bel
            clear H9
            go_wp2_with fail
            refine (works7_any _).mono ?_
            rintro y wz ⟨rfl, bz⟩
            have HBZ := Lib.hid (Trm.go HB14.out bz)
            clear bz
            go_wp2_with fail
            go_ret
            exact ⟨rfl, HBZ.out⟩
end Go.Proofs.YtkbamiheclakmaaGreat


