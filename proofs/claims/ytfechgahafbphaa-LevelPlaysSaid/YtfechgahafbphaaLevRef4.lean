/-
  battenref02: Leq.
-/
import Derived.Test.YtfechgahafbphaaLevRef3
import Derived.Test.YtfechgahafbphaaLevLeq
import Derived.Test.YtfechgahafbphaaLevMath2
import Derived.Deep.RegionHeld3
namespace Go.Proofs.Ytfechgahafbphaa
open Go.RowKit Go.Shelf Lvl Trm

namespace Lvl
/-- The point that is great at k alone. -/
def pt : Nat → Four
  | 0 => ⟨great, 0, 0, 0⟩
  | 1 => ⟨0, great, 0, 0⟩
  | 2 => ⟨0, 0, great, 0⟩
  | _ => ⟨0, 0, 0, great⟩
theorem pt_pos (k : Nat) : (pt k).pos := by
  match k with
  | 0 => simp [pt, Four.pos, great]
  | 1 => simp [pt, Four.pos, great]
  | 2 => simp [pt, Four.pos, great]
  | k + 3 => simp [pt, Four.pos, great]
theorem pt_fits (k : Nat) : (pt k).fits = true := by
  match k with
  | 0 => decide
  | 1 => decide
  | 2 => decide
  | k + 3 => show (Four.fits ⟨0, 0, 0, great⟩) = true; decide
theorem num_ev {l : Lv} (h : l.may = true) {n : Four} (hn : n.fits = true) : l.num n = ev l n := by
  unfold Lv.num
  rw [if_pos h, if_pos hn, num_eq]
theorem leq_points {a b : Lv} (ha : a.may = true) (hb : b.may = true) : leq a b = true ↔ a.num Four.zero ≤ b.num Four.zero ∧ ∀ k, k < 4 → a.num (pt k) ≤ b.num (pt k) := by
  have ka := (may_iff a).1 ha
  have kb := (may_iff b).1 hb
  rw [leq_iff ka kb, num_ev ha (by decide), num_ev hb (by decide)]
  constructor
  · intro h
    refine ⟨leq_ev ka kb h (by simp [Four.pos, Four.zero]), fun k _ => ?_⟩
    rw [num_ev ha (pt_fits k), num_ev hb (pt_fits k)]
    exact leq_ev ka kb h (pt_pos k)
  · rintro ⟨h, g⟩
    have g' : ∀ k, k < 4 → ev a (pt k) ≤ ev b (pt k) := fun k hk => by
      have := g k hk
      rwa [num_ev ha (pt_fits k), num_ev hb (pt_fits k)] at this
    exact ev_leq ka kb h (g' 0 (by omega)) (g' 1 (by omega)) (g' 2 (by omega)) (g' 3 (by omega))
def PRel (w : World) (a b : Lv) (P : Nat) (i : Value) (wr : World) : Prop := ∃ k : Nat, i = .int .i64 k ∧ k ≤ 4 ∧ (∀ j, j < k → a.num (pt j) ≤ b.num (pt j)) ∧ wr.heap[w.heap.size]? = some a.box ∧ wr.heap[w.heap.size + 1]? = some b.box ∧ wr.heap[P]? = some Four.zero.box ∧ Below w.heap.size w wr
theorem go1 {w W w1 : World} (h : Below w.heap.size w W) (b : Below W.heap.size W w1) : Below w.heap.size w w1 := h.trans (b.mono h.size)
theorem pt_set {W : World} {B k : Nat} (h : W.heap[B]? = some Four.zero.box) (hk : k < 4) : (W.setCell ⟨B, k, none⟩ (.int .i64 2199023255552)).heap[B]? = some (pt k).box := by
  match k, hk with
  | 0, _ => simp [World.setCell, Array.getElem?_modify, h, pt, Four.box, Four.zero, great]
  | 1, _ => simp [World.setCell, Array.getElem?_modify, h, pt, Four.box, Four.zero, great]
  | 2, _ => simp [World.setCell, Array.getElem?_modify, h, pt, Four.box, Four.zero, great]
  | 3, _ => simp [World.setCell, Array.getElem?_modify, h, pt, Four.box, Four.zero, great]
theorem pt_back {W : World} {B k : Nat} (h : W.heap[B]? = some (pt k).box) (hk : k < 4) : (W.setCell ⟨B, k, none⟩ (.int .i64 0)).heap[B]? = some Four.zero.box := by
  match k, hk with
  | 0, _ => simp [World.setCell, Array.getElem?_modify, h, pt, Four.box, Four.zero]
  | 1, _ => simp [World.setCell, Array.getElem?_modify, h, pt, Four.box, Four.zero]
  | 2, _ => simp [World.setCell, Array.getElem?_modify, h, pt, Four.box, Four.zero]
  | 3, _ => simp [World.setCell, Array.getElem?_modify, h, pt, Four.box, Four.zero]
end Lvl

set_option maxRecDepth 100000 in
set_option maxHeartbeats 4000000 in
theorem RefLeq_any (a b : Lv) (w : World) :
    Calls Try.prog 41 #[a.val, b.val] w fun e w' => e = .returned (.bool (leq a b)) ∧ Below w.heap.size w w' := by
  have HMA := Lib.hid (fun W => RefMay_any a W)
  have HMB := Lib.hid (fun W => RefMay_any b W)
  have H0 := Lib.hid (new1of2 w a.box b.box)
  have H1 := Lib.hid (new2 w a.box b.box)
  have HB := Lib.hid (below_two w a.box b.box)
  cases ha : a.may
  · have HG : Hid (false = leq a b) := Lib.hid (by unfold leq maxi; rw [ha]; simp)
    rw [ha] at HMA
    generalize leq a b = G at HG ⊢
    clear ha
    unfold Lv.val at HMA ⊢
    go_enter Try.func41, Try.ntmps41
    go_wp2_with fail
    refine (HMA.out _).mono ?_
    rintro e w1 ⟨rfl, b1⟩
    have B1 := Lib.hid (HB.out.trans (b1.mono HB.out.size))
    clear b1
    go_wp2_with fail
    go_ret
    exact ⟨ret_bool HG.out, B1.out⟩
  · cases hb : b.may
    · have HG : Hid (false = leq a b) := Lib.hid (by unfold leq maxi; rw [ha, hb]; simp)
      rw [ha] at HMA
      rw [hb] at HMB
      generalize leq a b = G at HG ⊢
      clear ha hb
      unfold Lv.val at HMA HMB ⊢
      go_enter Try.func41, Try.ntmps41
      go_wp2_with fail
      refine (HMA.out _).mono ?_
      rintro e w1 ⟨rfl, b1⟩
      have B1 := Lib.hid (HB.out.trans (b1.mono HB.out.size))
      have X1 := Lib.hid (Lvl.keep b1 H1.out)
      obtain ⟨c0, c1, c2, c3, c4⟩ := Lv.cells X1.out
      clear b1
      go_wp2_with fail
      refine (HMB.out _).mono ?_
      rintro e w2 ⟨rfl, b2⟩
      have B2 := Lib.hid (B1.out.trans (b2.mono B1.out.size))
      clear b2
      go_wp2_with fail
      go_ret
      exact ⟨ret_bool HG.out, B2.out⟩
    · have HL := Lib.hid (leq_points ha hb)
      rw [ha] at HMA
      rw [hb] at HMB
      have HAA := Lib.hid (fun n W => RefAt_any a n W)
      have HAB := Lib.hid (fun n W => RefAt_any b n W)
      generalize leq a b = G at HL ⊢
      clear ha hb
      unfold Lv.val at HMA HMB HAA HAB ⊢
      unfold Four.val at HAA HAB
      go_enter Try.func41, Try.ntmps41
      go_wp2_with fail
      refine (HMA.out _).mono ?_
      rintro e w1 ⟨rfl, b1⟩
      have B1 := Lib.hid (HB.out.trans (b1.mono HB.out.size))
      have Y1 := Lib.hid (Lvl.keep b1 H0.out)
      have X1 := Lib.hid (Lvl.keep b1 H1.out)
      obtain ⟨c0, c1, c2, c3, c4⟩ := Lv.cells X1.out
      clear b1
      go_wp2_with fail
      refine (HMB.out _).mono ?_
      rintro e w2 ⟨rfl, b2⟩
      have B2 := Lib.hid (B1.out.trans (b2.mono B1.out.size))
      have Y2 := Lib.hid (Lvl.keep b2 Y1.out)
      have X2 := Lib.hid (Lvl.keep b2 X1.out)
      clear b2 c0 c1 c2 c3 c4
      go_wp2_with fail
      have XA := Lib.hid (keepA Y2.out Four.zero.box)
      have XB := Lib.hid (keepA X2.out Four.zero.box)
      have XP := Lib.hid (World.alloc_heap_new w2 Four.zero.box)
      have B3 := Lib.hid (B2.out.alloc B2.out.size Four.zero.box)
      have hPw : w.heap.size ≤ w2.heap.size := B2.out.size
      obtain ⟨P, hP⟩ : ∃ P, P = w2.heap.size := ⟨_, rfl⟩
      have ew : w2.alloc (.cells #[.int .i64 0, .int .i64 0, .int .i64 0, .int .i64 0] 42) = w2.alloc Four.zero.box := rfl
      have lPa : P ≠ w.heap.size := by have := (Array.getElem?_eq_some_iff.1 Y2.out).1; omega
      have lPb : P ≠ w.heap.size + 1 := by have := (Array.getElem?_eq_some_iff.1 X2.out).1; omega
      rw [ew]
      rw [← hP] at XP hPw ⊢
      obtain ⟨w3, hw3⟩ : ∃ v, v = w2.alloc Four.zero.box := ⟨_, rfl⟩
      rw [← hw3] at XA XB XP B3 ⊢
      clear hw3 ew hP B1 B2 X1 X2 Y1 Y2 HMA HMB H0 H1 HB
      obtain ⟨N, hN⟩ : ∃ N, N = Four.zero := ⟨_, rfl⟩
      obtain ⟨va, hva⟩ : ∃ v, v = a.num Four.zero := ⟨_, rfl⟩
      obtain ⟨vb, hvb⟩ : ∃ v, v = b.num Four.zero := ⟨_, rfl⟩
      rw [← hva, ← hvb] at HL
      rw [← hN] at XP hva hvb
      have CA := Lib.hid (fun (W : World) (_ : Below w3.heap.size w3 W) => (show Calls Try.prog 43 #[.agg #[.int .i64 a.c, .int .i64 a.p0, .int .i64 a.p1, .int .i64 a.p2, .int .i64 a.p3], .agg #[.int .i64 N.a0, .int .i64 N.a1, .int .i64 N.a2, .int .i64 N.a3]] W (fun e w' => e = .returned (.int .i64 va) ∧ Below W.heap.size W w') from by have := HAA.out N W; rwa [← hva] at this))
      have CB := Lib.hid (fun (W : World) (_ : Below w3.heap.size w3 W) => (show Calls Try.prog 43 #[.agg #[.int .i64 b.c, .int .i64 b.p0, .int .i64 b.p1, .int .i64 b.p2, .int .i64 b.p3], .agg #[.int .i64 N.a0, .int .i64 N.a1, .int .i64 N.a2, .int .i64 N.a3]] W (fun e w' => e = .returned (.int .i64 vb) ∧ Below W.heap.size W w') from by have := HAB.out N W; rwa [← hvb] at this))
      have HNZ := Lib.hid hN
      clear hva hvb hN
      by_cases hq : vb < va
      · have dq : decide (vb < va) = true := by simpa using hq
        have HF : Hid (false = G) := Lib.hid (by
          cases hg : G
          · rfl
          · have := (HL.out.1 hg).1
            omega)
        clear hq HL HAA HAB
        obtain ⟨c0, c1, c2, c3, c4⟩ := Lv.cells XA.out
        obtain ⟨d0, d1, d2, d3, d4⟩ := Lv.cells XB.out
        obtain ⟨p0, p1, p2, p3⟩ := Four.cells XP.out
        have hbz : Below w3.heap.size w3 w3.drew := (Below.refl _ _).drew
        go_region_held3 (fun w' => Below w3.heap.size w3 w' ∧ w'.cell? ⟨w.heap.size, 0, none⟩ = some (.int .i64 a.c) ∧ w'.cell? ⟨w.heap.size, 1, none⟩ = some (.int .i64 a.p0) ∧ w'.cell? ⟨w.heap.size, 2, none⟩ = some (.int .i64 a.p1) ∧ w'.cell? ⟨w.heap.size, 3, none⟩ = some (.int .i64 a.p2) ∧ w'.cell? ⟨w.heap.size, 4, none⟩ = some (.int .i64 a.p3) ∧ w'.cell? ⟨w.heap.size + 1, 0, none⟩ = some (.int .i64 b.c) ∧ w'.cell? ⟨w.heap.size + 1, 1, none⟩ = some (.int .i64 b.p0) ∧ w'.cell? ⟨w.heap.size + 1, 2, none⟩ = some (.int .i64 b.p1) ∧ w'.cell? ⟨w.heap.size + 1, 3, none⟩ = some (.int .i64 b.p2) ∧ w'.cell? ⟨w.heap.size + 1, 4, none⟩ = some (.int .i64 b.p3) ∧ w'.cell? ⟨P, 0, none⟩ = some (.int .i64 N.a0) ∧ w'.cell? ⟨P, 1, none⟩ = some (.int .i64 N.a1) ∧ w'.cell? ⟨P, 2, none⟩ = some (.int .i64 N.a2) ∧ w'.cell? ⟨P, 3, none⟩ = some (.int .i64 N.a3))
          (go_keep)
          (first
          | (go_at_call 43; (with_reducible refine (CB.out _ ?_).mono ?_); (first | assumption | exact (Below.refl _ _).drew); rintro e wx ⟨rfl, bw⟩; have hbx : Below w3.heap.size w3 wx := Lvl.go1 (by first | assumption | exact (Below.refl _ _).drew) bw; obtain ⟨c0, c1, c2, c3, c4⟩ := Lv.cells (Lvl.keep hbx XA.out); obtain ⟨d0, d1, d2, d3, d4⟩ := Lv.cells (Lvl.keep hbx XB.out); obtain ⟨p0, p1, p2, p3⟩ := Four.cells (Lvl.keep hbx XP.out))
          | (go_at_call 43; (with_reducible refine (CA.out _ ?_).mono ?_); (first | assumption | exact (Below.refl _ _).drew); rintro e wx ⟨rfl, bw⟩; have hbx : Below w3.heap.size w3 wx := Lvl.go1 (by first | assumption | exact (Below.refl _ _).drew) bw; obtain ⟨c0, c1, c2, c3, c4⟩ := Lv.cells (Lvl.keep hbx XA.out); obtain ⟨d0, d1, d2, d3, d4⟩ := Lv.cells (Lvl.keep hbx XB.out); obtain ⟨p0, p1, p2, p3⟩ := Four.cells (Lvl.keep hbx XP.out)))
        go_wp2_with fail
        go_ret
        exact ⟨ret_bool HF.out, Lvl.go1 B3.out hbx⟩
      · have dq : decide (vb < va) = false := by simpa using hq
        have HL2 : Hid (G = true ↔ ∀ k, k < 4 → a.num (pt k) ≤ b.num (pt k)) := Lib.hid (HL.out.trans ⟨fun h => h.2, fun h => ⟨by omega, h⟩⟩)
        clear hq HL
        obtain ⟨c0, c1, c2, c3, c4⟩ := Lv.cells XA.out
        obtain ⟨d0, d1, d2, d3, d4⟩ := Lv.cells XB.out
        obtain ⟨p0, p1, p2, p3⟩ := Four.cells XP.out
        have hbz : Below w3.heap.size w3 w3.drew := (Below.refl _ _).drew
        go_region_held3 (fun w' => Below w3.heap.size w3 w' ∧ w'.cell? ⟨w.heap.size, 0, none⟩ = some (.int .i64 a.c) ∧ w'.cell? ⟨w.heap.size, 1, none⟩ = some (.int .i64 a.p0) ∧ w'.cell? ⟨w.heap.size, 2, none⟩ = some (.int .i64 a.p1) ∧ w'.cell? ⟨w.heap.size, 3, none⟩ = some (.int .i64 a.p2) ∧ w'.cell? ⟨w.heap.size, 4, none⟩ = some (.int .i64 a.p3) ∧ w'.cell? ⟨w.heap.size + 1, 0, none⟩ = some (.int .i64 b.c) ∧ w'.cell? ⟨w.heap.size + 1, 1, none⟩ = some (.int .i64 b.p0) ∧ w'.cell? ⟨w.heap.size + 1, 2, none⟩ = some (.int .i64 b.p1) ∧ w'.cell? ⟨w.heap.size + 1, 3, none⟩ = some (.int .i64 b.p2) ∧ w'.cell? ⟨w.heap.size + 1, 4, none⟩ = some (.int .i64 b.p3) ∧ w'.cell? ⟨P, 0, none⟩ = some (.int .i64 N.a0) ∧ w'.cell? ⟨P, 1, none⟩ = some (.int .i64 N.a1) ∧ w'.cell? ⟨P, 2, none⟩ = some (.int .i64 N.a2) ∧ w'.cell? ⟨P, 3, none⟩ = some (.int .i64 N.a3))
          (go_keep)
          (first
          | (go_at_call 43; (with_reducible refine (CB.out _ ?_).mono ?_); (first | assumption | exact (Below.refl _ _).drew); rintro e wx ⟨rfl, bw⟩; have hbx : Below w3.heap.size w3 wx := Lvl.go1 (by first | assumption | exact (Below.refl _ _).drew) bw; obtain ⟨c0, c1, c2, c3, c4⟩ := Lv.cells (Lvl.keep hbx XA.out); obtain ⟨d0, d1, d2, d3, d4⟩ := Lv.cells (Lvl.keep hbx XB.out); obtain ⟨p0, p1, p2, p3⟩ := Four.cells (Lvl.keep hbx XP.out))
          | (go_at_call 43; (with_reducible refine (CA.out _ ?_).mono ?_); (first | assumption | exact (Below.refl _ _).drew); rintro e wx ⟨rfl, bw⟩; have hbx : Below w3.heap.size w3 wx := Lvl.go1 (by first | assumption | exact (Below.refl _ _).drew) bw; obtain ⟨c0, c1, c2, c3, c4⟩ := Lv.cells (Lvl.keep hbx XA.out); obtain ⟨d0, d1, d2, d3, d4⟩ := Lv.cells (Lvl.keep hbx XB.out); obtain ⟨p0, p1, p2, p3⟩ := Four.cells (Lvl.keep hbx XP.out)))
        go_wp2_with fail
        have ZA := Lib.hid (Lvl.keep hbx XA.out)
        have ZB := Lib.hid (Lvl.keep hbx XB.out)
        have ZP := Lib.hid (HNZ.out ▸ Lvl.keep hbx XP.out)
        have Z3 := Lib.hid (Lvl.go1 B3.out hbx)
        go_loopw [6] (fun i wr => PRel w a b P i wr) (fun i _ => 4 - (intOf i).toNat)
        case atStart => exact ⟨0, rfl, by omega, fun j hj => absurd hj (by omega), ZA.out, ZB.out, ZP.out, Z3.out⟩
        case round =>
          clear ZA ZB ZP Z3 XA XB XP B3 HNZ CA CB hbx hbz
          obtain ⟨k, rfl, hk, hle, h0, h1, h2, hb⟩ := hrel
          have HLE := Lib.hid hle
          by_cases hlt : k < 4
          · have q0 := four_cell h2 k hlt
            have lP : P < wr.heap.size := (Array.getElem?_eq_some_iff.1 h2).1
            have f0 : wr.frozen? ⟨P, k, none⟩ = false := by simp [World.frozen?, h2, Four.box]
            have XA := Lib.hid (block_other h0 (b := P) (o := k) (.int .i64 2199023255552) lPa)
            have XB := Lib.hid (block_other h1 (b := P) (o := k) (.int .i64 2199023255552) lPb)
            have XP := Lib.hid (pt_set h2 hlt)
            have B4 := Lib.hid (hb.setCell (p := ⟨P, k, none⟩) hPw (.int .i64 2199023255552))
            clear h0 h1 h2 hb hle
            go_wp2_with fail
            generalize hW : wr.setCell ⟨P, k, none⟩ (.int .i64 2199023255552) = w4 at XA XB XP B4 ⊢
            clear hW q0 f0 lP
            obtain ⟨N, hN⟩ : ∃ N, N = pt k := ⟨_, rfl⟩
            obtain ⟨va, hva⟩ : ∃ v, v = a.num (pt k) := ⟨_, rfl⟩
            obtain ⟨vb, hvb⟩ : ∃ v, v = b.num (pt k) := ⟨_, rfl⟩
            have HF0 : Hid (vb < va → false = G) := Lib.hid (fun hq => by
              cases hg : G
              · rfl
              · have := (HL2.out.1 hg) k hlt
                omega)
            have HLE2 : Hid (¬ vb < va → ∀ j, j < k + 1 → a.num (pt j) ≤ b.num (pt j)) := Lib.hid (fun hq j hj => by
              rcases (show j < k ∨ j = k by omega) with h | rfl
              · exact HLE.out j h
              · omega)
            rw [← hN] at XP hva hvb
            have CA := Lib.hid (fun (W : World) (_ : Below w4.heap.size w4 W) => (show Calls Try.prog 43 #[.agg #[.int .i64 a.c, .int .i64 a.p0, .int .i64 a.p1, .int .i64 a.p2, .int .i64 a.p3], .agg #[.int .i64 N.a0, .int .i64 N.a1, .int .i64 N.a2, .int .i64 N.a3]] W (fun e w' => e = .returned (.int .i64 va) ∧ Below W.heap.size W w') from by have := HAA.out N W; rwa [← hva] at this))
            have CB := Lib.hid (fun (W : World) (_ : Below w4.heap.size w4 W) => (show Calls Try.prog 43 #[.agg #[.int .i64 b.c, .int .i64 b.p0, .int .i64 b.p1, .int .i64 b.p2, .int .i64 b.p3], .agg #[.int .i64 N.a0, .int .i64 N.a1, .int .i64 N.a2, .int .i64 N.a3]] W (fun e w' => e = .returned (.int .i64 vb) ∧ Below W.heap.size W w') from by have := HAB.out N W; rwa [← hvb] at this))
            have HNZ := Lib.hid hN
            clear hva hvb hN
            by_cases hq : vb < va
            · have dq : decide (vb < va) = true := by simpa using hq
              have HF := Lib.hid (HF0.out hq)
              clear hq HL2 HAA HAB HF0 HLE2 HLE
              obtain ⟨c0, c1, c2, c3, c4⟩ := Lv.cells XA.out
              obtain ⟨d0, d1, d2, d3, d4⟩ := Lv.cells XB.out
              obtain ⟨p0, p1, p2, p3⟩ := Four.cells XP.out
              have hbz : Below w4.heap.size w4 w4.drew := (Below.refl _ _).drew
              go_region_held3 (fun w' => Below w4.heap.size w4 w' ∧ w'.cell? ⟨w.heap.size, 0, none⟩ = some (.int .i64 a.c) ∧ w'.cell? ⟨w.heap.size, 1, none⟩ = some (.int .i64 a.p0) ∧ w'.cell? ⟨w.heap.size, 2, none⟩ = some (.int .i64 a.p1) ∧ w'.cell? ⟨w.heap.size, 3, none⟩ = some (.int .i64 a.p2) ∧ w'.cell? ⟨w.heap.size, 4, none⟩ = some (.int .i64 a.p3) ∧ w'.cell? ⟨w.heap.size + 1, 0, none⟩ = some (.int .i64 b.c) ∧ w'.cell? ⟨w.heap.size + 1, 1, none⟩ = some (.int .i64 b.p0) ∧ w'.cell? ⟨w.heap.size + 1, 2, none⟩ = some (.int .i64 b.p1) ∧ w'.cell? ⟨w.heap.size + 1, 3, none⟩ = some (.int .i64 b.p2) ∧ w'.cell? ⟨w.heap.size + 1, 4, none⟩ = some (.int .i64 b.p3) ∧ w'.cell? ⟨P, 0, none⟩ = some (.int .i64 N.a0) ∧ w'.cell? ⟨P, 1, none⟩ = some (.int .i64 N.a1) ∧ w'.cell? ⟨P, 2, none⟩ = some (.int .i64 N.a2) ∧ w'.cell? ⟨P, 3, none⟩ = some (.int .i64 N.a3))
                (go_keep)
                (first
                | (go_at_call 43; (with_reducible refine (CB.out _ ?_).mono ?_); (first | assumption | exact (Below.refl _ _).drew); rintro e wx ⟨rfl, bw⟩; have hbx : Below w4.heap.size w4 wx := Lvl.go1 (by first | assumption | exact (Below.refl _ _).drew) bw; obtain ⟨c0, c1, c2, c3, c4⟩ := Lv.cells (Lvl.keep hbx XA.out); obtain ⟨d0, d1, d2, d3, d4⟩ := Lv.cells (Lvl.keep hbx XB.out); obtain ⟨p0, p1, p2, p3⟩ := Four.cells (Lvl.keep hbx XP.out))
                | (go_at_call 43; (with_reducible refine (CA.out _ ?_).mono ?_); (first | assumption | exact (Below.refl _ _).drew); rintro e wx ⟨rfl, bw⟩; have hbx : Below w4.heap.size w4 wx := Lvl.go1 (by first | assumption | exact (Below.refl _ _).drew) bw; obtain ⟨c0, c1, c2, c3, c4⟩ := Lv.cells (Lvl.keep hbx XA.out); obtain ⟨d0, d1, d2, d3, d4⟩ := Lv.cells (Lvl.keep hbx XB.out); obtain ⟨p0, p1, p2, p3⟩ := Four.cells (Lvl.keep hbx XP.out)))
              go_wp2_with fail
              go_ret
              exact ⟨ret_bool HF.out, Lvl.go1 B4.out hbx⟩
            · have dq : decide (vb < va) = false := by simpa using hq
              have HLE3 := Lib.hid (HLE2.out hq)
              clear hq HL2 HAA HAB HF0 HLE2 HLE
              obtain ⟨c0, c1, c2, c3, c4⟩ := Lv.cells XA.out
              obtain ⟨d0, d1, d2, d3, d4⟩ := Lv.cells XB.out
              obtain ⟨p0, p1, p2, p3⟩ := Four.cells XP.out
              have hbz : Below w4.heap.size w4 w4.drew := (Below.refl _ _).drew
              go_region_held3 (fun w' => Below w4.heap.size w4 w' ∧ w'.cell? ⟨w.heap.size, 0, none⟩ = some (.int .i64 a.c) ∧ w'.cell? ⟨w.heap.size, 1, none⟩ = some (.int .i64 a.p0) ∧ w'.cell? ⟨w.heap.size, 2, none⟩ = some (.int .i64 a.p1) ∧ w'.cell? ⟨w.heap.size, 3, none⟩ = some (.int .i64 a.p2) ∧ w'.cell? ⟨w.heap.size, 4, none⟩ = some (.int .i64 a.p3) ∧ w'.cell? ⟨w.heap.size + 1, 0, none⟩ = some (.int .i64 b.c) ∧ w'.cell? ⟨w.heap.size + 1, 1, none⟩ = some (.int .i64 b.p0) ∧ w'.cell? ⟨w.heap.size + 1, 2, none⟩ = some (.int .i64 b.p1) ∧ w'.cell? ⟨w.heap.size + 1, 3, none⟩ = some (.int .i64 b.p2) ∧ w'.cell? ⟨w.heap.size + 1, 4, none⟩ = some (.int .i64 b.p3) ∧ w'.cell? ⟨P, 0, none⟩ = some (.int .i64 N.a0) ∧ w'.cell? ⟨P, 1, none⟩ = some (.int .i64 N.a1) ∧ w'.cell? ⟨P, 2, none⟩ = some (.int .i64 N.a2) ∧ w'.cell? ⟨P, 3, none⟩ = some (.int .i64 N.a3))
                (go_keep)
                (first
                | (go_at_call 43; (with_reducible refine (CB.out _ ?_).mono ?_); (first | assumption | exact (Below.refl _ _).drew); rintro e wx ⟨rfl, bw⟩; have hbx : Below w4.heap.size w4 wx := Lvl.go1 (by first | assumption | exact (Below.refl _ _).drew) bw; obtain ⟨c0, c1, c2, c3, c4⟩ := Lv.cells (Lvl.keep hbx XA.out); obtain ⟨d0, d1, d2, d3, d4⟩ := Lv.cells (Lvl.keep hbx XB.out); obtain ⟨p0, p1, p2, p3⟩ := Four.cells (Lvl.keep hbx XP.out))
                | (go_at_call 43; (with_reducible refine (CA.out _ ?_).mono ?_); (first | assumption | exact (Below.refl _ _).drew); rintro e wx ⟨rfl, bw⟩; have hbx : Below w4.heap.size w4 wx := Lvl.go1 (by first | assumption | exact (Below.refl _ _).drew) bw; obtain ⟨c0, c1, c2, c3, c4⟩ := Lv.cells (Lvl.keep hbx XA.out); obtain ⟨d0, d1, d2, d3, d4⟩ := Lv.cells (Lvl.keep hbx XB.out); obtain ⟨p0, p1, p2, p3⟩ := Four.cells (Lvl.keep hbx XP.out)))
              have XP2 := Lvl.keep hbx XP.out
              have q0 := four_cell XP2 k hlt
              have f0 : wx.frozen? ⟨P, k, none⟩ = false := by simp [World.frozen?, XP2, Four.box]
              have lP : P < wx.heap.size := (Array.getElem?_eq_some_iff.1 XP2).1
              have YA := Lib.hid (block_other (Lvl.keep hbx XA.out) (b := P) (o := k) (.int .i64 0) lPa)
              have YB := Lib.hid (block_other (Lvl.keep hbx XB.out) (b := P) (o := k) (.int .i64 0) lPb)
              have YP := Lib.hid (pt_back (HNZ.out ▸ XP2) hlt)
              have Y4 := Lib.hid ((Lvl.go1 B4.out hbx).setCell (p := ⟨P, k, none⟩) hPw (.int .i64 0))
              clear XP2
              go_wp2_with fail
              go_roundw
              case rel => exact ⟨k + 1, by go_num, by omega, HLE3.out, YA.out, YB.out, YP.out, Y4.out⟩
              case measure => simp [intOf]; omega
          · obtain rfl : k = 4 := by omega
            have HF : Hid (true = G) := Lib.hid (HL2.out.2 hle).symm
            have HB2 := Lib.hid hb
            clear h0 h1 h2 hb hle
            go_wp2_with fail
            go_ret
            exact ⟨ret_bool HF.out, HB2.out⟩
end Go.Proofs.Ytfechgahafbphaa
