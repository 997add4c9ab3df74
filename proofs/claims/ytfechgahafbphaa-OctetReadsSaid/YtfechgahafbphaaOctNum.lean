/-
  The number that bytes begin with: octet.bits, octet.number; and the method Number.
-/
import Derived.Test.YtfechgahafbphaaOctRdr
namespace Go.Proofs.Ytfechgahafbphaa
open Go.RowKit Oct

/-- Where there are bytes there is an address, and the cells lie behind it. -/
theorem Oct.Row.place {w : World} {ao : Option Addr} {cap : Nat} {bs : List UInt8} (h : Row w ao cap bs) (h0 : 0 < bs.length) :
    ∃ b off, ao = some ⟨b, off, none⟩ ∧ ∀ k (hk : k < bs.length), w.cell? ⟨b, off + k, none⟩ = some (.int .u8 ((bs[k]).toNat : Int)) := by
  cases ao with
  | none => have := (h.nil rfl).1; omega
  | some a =>
    obtain ⟨b, off, spot⟩ := a
    have hc := fun k (hk : k < bs.length) => h.cell _ rfl k (.int .u8 ((bs[k]).toNat : Int)) (by simp [cells, hk])
    have h1 := hc 0 h0
    have hs : spot = none := by simpa [Addr.add] using World.cell?_spot h1
    subst hs
    exact ⟨b, off, rfl, fun k hk => by have := hc k hk; rwa [Addr.add_lit] at this⟩

theorem Oct.andNot128 (c : Nat) (h : c < 256) : bits .andNot .u8 (c : Int) 128 = ((c % 128 : Nat) : Int) := by
  have e := u8_andNot_nat c 128 h (by omega)
  rw [show 255 - 128 = 127 from rfl, nat_mask7] at e
  exact e
theorem Oct.pow7 (k : Nat) : 2 ^ (7 * k) = 128 ^ k := by rw [Nat.pow_mul]
theorem Oct.orStep {m c k : Nat} (hm : m < 128 ^ k) (hk : k ≤ 9) (hc : c < 256) (h9 : k = 9 → c = 1) :
    bits .or .u64 (m : Int) (IntKind.u64.wrap (IntKind.u64.wrap (bits .andNot .u8 (c : Int) 128) * 2 ^ (7 * k))) = ((m + c % 128 * 128 ^ k : Nat) : Int) := by
  rw [andNot128 c hc, IntKind.wrap_u64, IntKind.wrap_u64]
  have hp : (2 : Int) ^ (7 * k) = ((128 ^ k : Nat) : Int) := by rw [← pow7]; simp
  have hlo : 128 ^ k ≤ 9223372036854775808 := by
    have := Nat.pow_le_pow_right (show 0 < 128 by omega) hk
    simpa using this
  have hsmall : c % 128 * 128 ^ k < 18446744073709551616 := by
    by_cases e : k = 9
    · subst e; rw [h9 rfl]; omega
    · have h1 := Nat.pow_le_pow_right (show 0 < 128 by omega) (show k ≤ 8 by omega)
      have h2 : c % 128 * 128 ^ k ≤ 127 * 128 ^ 8 := Nat.mul_le_mul (by omega) h1
      have h3 : 127 * 128 ^ 8 < 18446744073709551616 := by decide +kernel
      omega
  rw [hp, show ((c % 128 : Nat) : Int) % 18446744073709551616 = ((c % 128 : Nat) : Int) by omega, ← Int.natCast_mul, show ((c % 128 * 128 ^ k : Nat) : Int) % 18446744073709551616 = ((c % 128 * 128 ^ k : Nat) : Int) by omega, u64_or_nat _ _ (by omega) hsmall, Nat.or_comm, nat_join (7 * k) _ _ (by rw [pow7]; exact Nat.mul_mod_left _ _) (by rw [pow7]; exact hm), Nat.add_comm]
theorem Oct.orStep9 {m c : Nat} (hm : m < 128 ^ 9) (hc : c = 1) :
    bits .or .u64 (m : Int) (IntKind.u64.wrap (IntKind.u64.wrap (bits .andNot .u8 (c : Int) 128) * 9223372036854775808)) = ((m + c % 128 * 128 ^ 9 : Nat) : Int) := by
  have h := orStep hm (Nat.le_refl _) (show c < 256 by omega) (fun _ => hc)
  rwa [show (2 : Int) ^ (7 * 9) = 9223372036854775808 by decide +kernel] at h

theorem Oct.scan_drop {bs : List UInt8} {k m c : Nat} (hlt : k < bs.length) (hc : c = (bs[k]).toNat) :
    scan (bs.drop k) k m = if k = 9 ∧ c ≠ 1 then (0, 0) else if 128 ≤ c then scan (bs.drop (k + 1)) (k + 1) (m + c % 128 * 128 ^ k) else if c = 0 ∧ 0 < k then (0, 0) else (m + c % 128 * 128 ^ k, k + 1) := by
  rw [List.drop_eq_getElem_cons hlt, scan, ← hc]

theorem Oct.ret_num {x : Nat × Nat} {a b : Nat} {A B : Int} (hx : x = (a, b)) (hA : A = (a : Int)) (hB : B = (b : Int)) :
    Ending.returned (.tuple #[.int .u64 A, .int .i64 B]) = .returned (.tuple #[.int .u64 x.1, .int .i64 x.2]) := by subst hx hA hB; rfl

theorem Oct.pow_step {m c k : Nat} (hm : m < 128 ^ k) : m + c % 128 * 128 ^ k < 128 ^ (k + 1) := by
  rw [Nat.pow_succ]
  have h := Nat.mul_le_mul (show c % 128 ≤ 127 by omega) (Nat.le_refl (128 ^ k))
  omega

def Oct.BitsRel (bs : List UInt8) (n i : Value) : Prop :=
  ∃ (k m : Nat), i = .int .i64 k ∧ n = .int .u64 m ∧ k ≤ bs.length ∧ k ≤ 9 ∧ m < 128 ^ k ∧ num bs = scan (bs.drop k) k m

set_option maxRecDepth 100000 in
set_option maxHeartbeats 2000000 in
theorem bits_any (w : World) (ao : Option Addr) (cap : Nat) (bs : List UInt8) (hb : Row w ao cap bs) (hl : bs.length ≤ 1000000) :
    Calls Try.prog 134 #[.slice ao bs.length cap] w fun e w' => e = .returned (.tuple #[.int .u64 (num bs).1, .int .i64 (num bs).2]) ∧ w = w' := by
  obtain ⟨x, hx⟩ : ∃ x, x = num bs := ⟨_, rfl⟩
  rw [← hx]
  have HX := Lib.hid hx
  clear hx
  go_enter Try.func134, Try.ntmps134
  go_wp2
  go_loop [2, 9] (fun n i => BitsRel bs n i) (fun _ i => bs.length - (intOf i).toNat)
  case atStart => exact ⟨0, 0, rfl, rfl, Nat.zero_le _, by omega, by omega, rfl⟩
  case round =>
    obtain ⟨k, m, rfl, rfl, hk, hk9, hm, hsc⟩ := hrel
    have HS := Lib.hid hsc
    have HM := Lib.hid hm
    clear hsc hm
    by_cases hlt : k < bs.length
    · obtain ⟨b, off, rfl, hcell⟩ := hb.place (by omega)
      have hc := hcell k hlt
      obtain ⟨c, hcc⟩ : ∃ c : Nat, c = (bs[k]).toNat := ⟨_, rfl⟩
      have hc256 : c < 256 := by rw [hcc]; exact UInt8.toNat_lt _
      rw [← hcc] at hc
      have HC := Lib.hid hcc
      clear hcell hcc hb
      have HSD := Lib.hid (scan_drop (m := m) hlt HC.out)
      go_wp2
      all_goals simp only [bne_iff_ne, ne_eq, bne_eq_false_iff_eq] at *
      all_goals first
        | (exfalso; omega)
        | (go_round
           case rel =>
             refine ⟨k + 1, m + c % 128 * 128 ^ k, by go_num, ?_, by omega, by omega, pow_step HM.out, ?_⟩
             · rw [orStep HM.out hk9 hc256 (by omega)]
             · rw [HS.out, HSD.out, if_neg (by omega), if_pos (by omega)]
           case measure => simp [intOf]; omega)
        | (go_ret2
           refine ⟨ret_num (a := 0) (b := 0) ?_ rfl rfl, rfl⟩
           rw [HX.out, HS.out, HSD.out]
           first
             | rw [if_pos (by omega)]
             | rw [if_neg (by omega), if_neg (by omega), if_pos (by omega)])
        | (go_ret2
           refine ⟨ret_num (a := m + c % 128 * 128 ^ k) (b := k + 1) ?_ ?_ (by omega), rfl⟩
           · rw [HX.out, HS.out, HSD.out, if_neg (by omega), if_neg (by omega), if_neg (by omega)]
           · by_cases e9 : k = 9
             · first
                 | (exfalso; omega)
                 | (subst e9
                    rw [orStep9 HM.out (by omega)])
             · first
                 | (exfalso; omega)
                 | (rw [orStep HM.out hk9 hc256 (fun h => absurd h e9)])
                 | (have e0 : c = 0 := by omega
                    subst e0
                    exact orStep (c := 0) HM.out hk9 (by omega) (fun h => absurd h e9)))
    · obtain rfl : k = bs.length := by omega
      clear hlt
      go_wp2
      go_ret2
      refine ⟨ret_num (a := 0) (b := 0) ?_ rfl rfl, rfl⟩
      rw [HX.out, HS.out, List.drop_length, scan]

/-- The method value r.stop. -/
def Oct.stopOf (R : Nat) : Value := .func (.func 87) #[.pointer (some ⟨R, 0, none⟩)] #[]

/-- What octet.number answers, and what it makes of the reader. -/
def Oct.numFn (s : St) (bs : List UInt8) (most : Nat) : (Nat × Nat) × St :=
  if (num bs).2 = 0 then ((0, 0), s.stop 3) else if most < (num bs).1 then ((0, 0), s.stop 4) else (num bs, s)

set_option maxRecDepth 100000 in
set_option maxHeartbeats 2000000 in
theorem numberFn_any (B : Nat) (w : World) (R : Nat) (v : Value) (s : St) (hr : Rdr B w R v s) (ao : Option Addr) (cap : Nat) (bs : List UInt8) (hb : Row w ao cap bs) (hl : bs.length ≤ 1000000) (most : Nat) :
    Calls Try.prog 86 #[.slice ao bs.length cap, .int .u64 most, stopOf R] w
      (Turned B w R v (.tuple #[.int .u64 (numFn s bs most).1.1, .int .i64 (numFn s bs most).1.2]) (numFn s bs most).2) := by
  have hbits := bits_any w ao cap bs hb hl
  obtain ⟨n, size, hx⟩ : ∃ n size, num bs = (n, size) := ⟨_, _, rfl⟩
  rw [hx] at hbits
  have HB := Lib.hid hbits
  have HR := Lib.hid hr
  have h00 : num bs = (n, size) → size = 0 → n = 0 := fun h e => by subst e; exact num_zero h
  by_cases h0 : size = 0
  · obtain rfl := h00 hx h0
    subst h0
    have e : numFn s bs most = ((0, 0), s.stop 3) := by simp [numFn, hx]
    rw [e]
    clear hbits hx hr hb e
    unfold stopOf
    go_enter Try.func86, Try.ntmps86
    go_wp2_with (first
      | (go_at_call 134; refine HB.out.mono ?_; rintro e w' ⟨rfl, rfl⟩)
      | (go_at_call 87; refine (stop_any B _ R v s HR.out 3).mono ?_; rintro e w' ⟨rfl, hr', hg'⟩))
    go_ret2
    exact ⟨rfl, hr', hg'⟩
  · have hs0 : ((size : Int) == 0) = false := by simp [h0]
    by_cases hm : most < n
    · have e : numFn s bs most = ((0, 0), s.stop 4) := by simp [numFn, hx, h0, hm]
      rw [e]
      clear hbits hx hr hb e h0 h00
      unfold stopOf
      go_enter Try.func86, Try.ntmps86
      go_wp2_with (first
        | (go_at_call 134; refine HB.out.mono ?_; rintro e w' ⟨rfl, rfl⟩)
        | (go_at_call 87; refine (stop_any B _ R v s HR.out 4).mono ?_; rintro e w' ⟨rfl, hr', hg'⟩))
      go_ret2
      exact ⟨rfl, hr', hg'⟩
    · have e : numFn s bs most = ((n, size), s) := by simp [numFn, hx, h0, hm]
      rw [e]
      clear hbits hx hr hb e h0 h00
      unfold stopOf
      go_enter Try.func86, Try.ntmps86
      go_wp2_with (first
        | (go_at_call 134; refine HB.out.mono ?_; rintro e w' ⟨rfl, rfl⟩))
      go_ret2
      exact ⟨rfl, HR.out, grownBy_self _ _⟩
end Go.Proofs.Ytfechgahafbphaa
