/-
  battenref03.Deep, Size, kids, Binds.
-/
import Derived.Test.YtijdlihodpodjaaTrmDeep
namespace Go.Proofs.Ytijdlihodpodjaa
open Go.RowKit Go.Shelf Lvl Trm

set_option maxRecDepth 100000 in
theorem Deep_any (t : Tm) (h : Hd) (w : World) (hin : t.In w.heap.size w h) :
    Calls Try.prog 11 #[t.val h] w fun e w' => e = .returned (.bool t.deep) ∧ Below w.heap.size w w' := by
  have HX := Lib.hid (deep_any t h 131072 8192)
  have HI := Lib.hid (Tm.In.mono (B' := (w.alloc (t.box h)).heap.size) (by simp) _ _ (Tm.In.below (below_one w (t.box h)) _ _ hin))
  have HL := Lib.hid (t.left_ge badDeep 131072 8192)
  obtain ⟨X, hX⟩ : ∃ X, X = t.left badDeep 131072 8192 := ⟨_, rfl⟩
  have hd : t.deep = decide (X < 0) := by rw [hX]; rfl
  rw [← hX] at HX HL
  rw [hd]
  clear hX hd hin
  unfold Tm.val Tm.vals at HX ⊢
  go_enter Try.func11, Try.ntmps11
  go_wp2_with fail
  refine (HX.out _ (by decide) (by decide) (by decide) (by decide) HI.out).mono ?_
  rintro e w1 ⟨rfl, b1⟩
  have HB := Lib.hid ((below_one w (t.box h)).trans (b1.mono (by simp)))
  have hX := HL.out
  clear b1 HL HX HI
  go_wp2_with fail
  go_ret
  exact ⟨rfl, HB.out⟩

set_option maxRecDepth 100000 in
theorem kids_any (k : Int) (w : World) :
    Calls Try.prog 136 #[.int .u8 k] w fun e w' => e = .returned (.int .i64 (kids k)) ∧ w = w' := by
  by_cases h : k = 1 ∨ k = 2 ∨ k = 3 ∨ k = 4 ∨ k = 5 ∨ k = 6 ∨ k = 7 ∨ k = 8
  · rcases h with rfl | rfl | rfl | rfl | rfl | rfl | rfl | rfl
    all_goals
      go_enter Try.func136, Try.ntmps136
      go_wp2
      go_ret
      exact ⟨rfl, rfl⟩
  · have h1 : k ≠ 1 := fun e => h (by omega)
    have h2 : k ≠ 2 := fun e => h (by omega)
    have h3 : k ≠ 3 := fun e => h (by omega)
    have h4 : k ≠ 4 := fun e => h (by omega)
    have h5 : k ≠ 5 := fun e => h (by omega)
    have h6 : k ≠ 6 := fun e => h (by omega)
    have h7 : k ≠ 7 := fun e => h (by omega)
    have h8 : k ≠ 8 := fun e => h (by omega)
    have hk : kids k = -1 := by unfold kids; simp [h1, h2, h3, h4, h5, h6, h7, h8]
    rw [hk]
    clear hk h
    go_enter Try.func136, Try.ntmps136
    go_wp2
    go_ret
    exact ⟨rfl, rfl⟩

theorem Trm.Tm.size_eq (t : Tm) : t.size = 1 + sizeL t.ts := by cases t; rw [Tm.size]; rfl
theorem Trm.sizeL_pos : ∀ ts : List Tm, (∀ x ∈ ts, 1 ≤ x.size) → (ts.length : Int) ≤ sizeL ts
  | [], _ => by rw [sizeL]; simp
  | t :: r, h => by
    have h1 := h t (by simp)
    have h2 := sizeL_pos r (fun x hx => h x (by simp [hx]))
    rw [sizeL]
    simp
    omega
theorem Trm.Tm.size_pos (t : Tm) : 1 ≤ t.size := by
  induction t using Tm.ind with
  | h t ih => have := sizeL_pos t.ts ih; rw [Tm.size_eq]; omega
theorem Trm.sizeL_ge (ts : List Tm) : 0 ≤ sizeL ts := by have := sizeL_pos ts (fun x _ => x.size_pos); omega
theorem Trm.sizeL_drop {ts : List Tm} {k : Nat} (h : k < ts.length) : sizeL (ts.drop k) = ts[k].size + sizeL (ts.drop (k + 1)) := by
  rw [drop_get h, sizeL]

def Trm.SizeRel (w : World) (o : Obj) (ts : List Tm) (G : Int) (v i : Value) (wr : World) : Prop :=
  ∃ (k : Nat) (L : Int), v = .int .i64 L ∧ i = .int .i64 k ∧ k ≤ ts.length ∧ 1 ≤ L ∧ L + sizeL (ts.drop k) = G ∧ Kept w wr o

set_option maxRecDepth 100000 in
set_option maxHeartbeats 1000000 in
theorem Size_any (t : Tm) : ∀ (h : Hd) (w : World), t.size ≤ 1000000000000 → t.In w.heap.size w h →
    Calls Try.prog 24 #[t.val h] w fun e w' => e = .returned (.int .i64 t.size) ∧ Below w.heap.size w w' := by
  induction t using Tm.ind with
  | h t ih =>
    intro h w hsz hin
    have hfit := hin.fit
    have hts := hfit.ts
    clear hfit
    have HIN := Lib.hid hin
    have HIH := Lib.hid ih
    clear hin ih
    obtain ⟨G, hG⟩ : ∃ G, G = t.size := ⟨_, rfl⟩
    rw [← hG] at hsz ⊢
    have HG : Hid (1 + sizeL (t.ts.drop 0) = G) := by rw [hG, Tm.size_eq]; rfl
    clear hG
    unfold Tm.val Tm.vals
    go_enter Try.func24, Try.ntmps24
    go_wp2_with fail
    go_loopw [3, 4] (fun v i wr => SizeRel w (t.box h) t.ts G v i wr) (fun _ i _ => t.ts.length - (intOf i).toNat)
    case atStart => exact ⟨0, 1, rfl, rfl, by omega, by omega, HG.out, Kept.start _ _⟩
    case round =>
      obtain ⟨k, L, rfl, rfl, hk, hL0, hGk, hkept⟩ := hrel
      have HK := Lib.hid hkept
      have HGk := Lib.hid hGk
      clear hkept hGk
      obtain ⟨c0, c1, c2, c3, c4⟩ := Tm.cells HK.out.box
      by_cases hlt : k < t.ts.length
      · obtain ⟨b, off, hao, hat⟩ := HIN.out.kid k hlt
        obtain ⟨hb, hd', ⟨k0, k1, k2, k3, k4⟩, hin'⟩ := hat.below HK.out.bel
        rw [hao] at c4
        have hd := sizeL_drop hlt
        have hr := sizeL_ge (t.ts.drop (k + 1))
        have hp := t.ts[k].size_pos
        have hGk' := HGk.out
        have HX := Lib.hid (HIH.out _ (List.getElem_mem hlt) hd')
        have HI := Lib.hid (Tm.In.mono HK.out.bel.size _ _ hin')
        have HGG : Hid (L + t.ts[k].size + sizeL (t.ts.drop (k + 1)) = G) := by show _ = _; omega
        have hX1 : t.ts[k].size ≤ 1000000000000 := by omega
        have hLX : L + t.ts[k].size ≤ 1000000000000 := by omega
        clear hat hin' hao HGk hGk' hd hr
        generalize t.ts[k] = x at k0 k1 k2 k3 k4 HX HI HGG hX1 hLX hp
        unfold Tm.val Tm.vals at HX
        obtain ⟨X, hX⟩ : ∃ X, X = x.size := ⟨_, rfl⟩
        rw [← hX] at HX HGG hX1 hLX hp
        clear hX
        go_wp2_with fail
        refine (HX.out _ hX1 HI.out).mono ?_
        rintro e w1 ⟨rfl, b1⟩
        have HK1 := Lib.hid (HK.out.step b1)
        clear b1 k0 k1 k2 k3 k4
        go_wp2_with fail
        go_roundw
        case rel => exact ⟨k + 1, L + X, rfl, by go_num, by omega, by omega, HGG.out, HK1.out⟩
        case measure => simp [intOf]; omega
      · have HE : Hid (L = G) := by
          have := HGk.out
          rw [List.drop_eq_nil_of_le (by omega), sizeL] at this
          show _ = _
          omega
        go_wp2_with fail
        go_ret
        exact ⟨ret_int HE.out, HK.out.bel⟩
end Go.Proofs.Ytijdlihodpodjaa
