/-
  battenref05.Deep: how many nodes stand in one another.
-/
import Derived.Test.YtjicdmohnfcflaaQArnWithin
import Derived.Test.YtjicdmohnfcflaaQB2
import Derived.Test.YtjicdmohnfcflaaQB6
import Derived.Deep.RegionHeld3
namespace Go.Proofs.Ytjicdmohnfcflaa
open Go.RowKit Go.Shelf Go.Maps Lvl Trm Arn

namespace Arn
def DpRel (w : World) (o : Obj) (ts : List Tm) (G : Int) (v i : Value) (wr : World) : Prop :=
  ∃ (j : Nat) (L : Int), v = .int .i64 L ∧ i = .int .i64 j ∧ j ≤ ts.length ∧ 0 ≤ L ∧ max L (htL (ts.drop j)) = G ∧ Kept w wr o
end Arn

set_option maxRecDepth 100000 in
set_option maxHeartbeats 2000000 in
theorem Deep5_any (t : Tm) : ∀ (h : Hd) (w : World), t.size ≤ 1000000 → t.In w.heap.size w h →
    Calls Try.prog 22 #[t.val h] w fun e w' => e = .returned (.int .i64 t.ht) ∧ Below w.heap.size w w' := by
  induction t using Tm.ind with
  | h t ih =>
    intro h w hsz hin
    have hts := hin.fit.ts
    have HIN := Lib.hid hin
    have HIH := Lib.hid ih
    have HSZ := Lib.hid hsz
    have hmax := run_max
    obtain ⟨G, hG⟩ : ∃ G, G = htL t.ts := ⟨_, rfl⟩
    have hh : t.ht = G + 1 := by rw [ht_eq, hG]; omega
    have hg0 : 0 ≤ G := hG ▸ htL_ge t.ts
    have hg1 : G + 1 ≤ 1000000 := by have := ht_size t; omega
    have HG : Hid (max 0 (htL (t.ts.drop 0)) = G) := Lib.hid (by rw [List.drop_zero, ← hG]; omega)
    rw [hh]
    clear hG hin ih hsz hh
    unfold Tm.val Tm.vals
    go_enter Try.func22, Try.ntmps22
    go_wp2_with fail
    go_loopw [3, 4] (fun v i wr => DpRel w (t.box h) t.ts G v i wr) (fun _ i _ => t.ts.length - (intOf i).toNat)
    case atStart => exact ⟨0, 0, rfl, rfl, by omega, by omega, HG.out, Kept.start _ _⟩
    case round =>
      obtain ⟨j, L, rfl, rfl, hj, hL0, hGk, hkept⟩ := hrel
      have HK := Lib.hid hkept
      have HGk := Lib.hid hGk
      have hLG : L ≤ G := by rw [← hGk]; omega
      clear hkept hGk
      obtain ⟨c0, c1, c2, c3, c4⟩ := Tm.cells HK.out.box
      by_cases hlt : j < t.ts.length
      · obtain ⟨b, off, hao, hat⟩ := HIN.out.kid j hlt
        obtain ⟨hb, hd', hcx, hin'⟩ := hat.below HK.out.bel
        rw [hao] at c4
        have hbw := HK.out.bel.size
        have HI := Lib.hid (Tm.In.mono HK.out.bel.size _ _ hin')
        have HX := Lib.hid (fun (W : World) (hW : Below wr.heap.size wr W) => HIH.out _ (List.getElem_mem hlt) hd' W (by have h1 := HSZ.out; have h2 := sizeL_mem (List.getElem_mem hlt); rw [Tm.size_eq t] at h1; omega) (carry HI.out hW))
        have HNX : Hid (max (max L t.ts[j].ht) (htL (t.ts.drop (j + 1))) = G) := Lib.hid (by
          have h0 := HGk.out
          rw [drop_get hlt, htL] at h0
          rw [← h0]; omega)
        have HCX := Lib.hid hcx
        obtain ⟨k0, k1, k2, k3, k4⟩ := hcx
        have HAO := Lib.hid hao
        clear hat hin' hao
        have hX0 := ht_pos t.ts[j]
        generalize t.ts[j].ht = X at HX HNX hX0
        generalize t.ts[j] = x at k0 k1 k2 k3 k4 HX HI HCX
        unfold Tm.val Tm.vals at HX
        have hbz : b < wr.heap.size := by omega
        go_wp2_with fail
        refine (HX.out _ (Below.refl _ _)).mono ?_
        rintro e w3 ⟨rfl, b3⟩
        have hb3 : Below wr.heap.size wr w3 := b3
        clear c0 c1 c2 c3 c4 k0 k1 k2 k3 k4
        obtain ⟨c0, c1, c2, c3, c4⟩ := Tm.cells (HK.out.step hb3).box
        have HKF := Lib.hid (HK.out.step hb3)
        go_wp2_with fail
        go_roundw
        case rel => exact ⟨j + 1, max L X, rfl, by go_num, by omega, by omega, HNX.out, HKF.out⟩
        case measure => simp [intOf]; omega
      · have HE : Hid (L + 1 = G + 1) := by
          have := HGk.out
          rw [List.drop_eq_nil_of_le (by omega), htL] at this
          show _ = _
          omega
        have hw1 : IntKind.i64.wrap (L + 1) = L + 1 := IntWalk.i64_in _ (by omega)
        go_wp2_with fail
        go_ret
        exact ⟨ret_int HE.out, HK.out.bel⟩
end Go.Proofs.Ytjicdmohnfcflaa

