/-
  The mathematics of the document's reader: the first bytes that end, and the number that they say.
-/
import Derived.Test.YtfechgahafbphaaOctNum
namespace Go.Proofs.Ytfechgahafbphaa
open Oct

namespace Oct
/-- What bytes say, the least part first. -/
def says : List UInt8 → Nat
  | [] => 0
  | c :: r => c.toNat % 128 + 128 * says r
theorem says_enc (a : Nat) : says (enc a) = a := by
  induction a using Nat.strongRecOn with
  | _ a ih =>
    by_cases h : a < 128
    · rw [enc_small h]
      simp only [says]
      rw [toNat_ofNat (by omega)]
      omega
    · rw [enc_big (by omega), says, ih (a / 128) (by omega), toNat_ofNat (by omega)]
      omega
/-- Of a number's bytes all but the last one go on. -/
theorem enc_goes (a : Nat) : ∀ i (h : i < (enc a).length), (128 ≤ ((enc a)[i]).toNat ↔ i + 1 < (enc a).length) := by
  induction a using Nat.strongRecOn with
  | _ a ih =>
    intro i h
    by_cases hs : a < 128
    · have e := enc_small hs
      have hl : (enc a).length = 1 := by rw [e]; rfl
      have hi : i = 0 := by omega
      subst hi
      have hg : (enc a)[0] = UInt8.ofNat a := by simp [e]
      rw [hg, toNat_ofNat (by omega), hl]
      omega
    · have e := enc_big (n := a) (by omega)
      have hl : (enc a).length = (enc (a / 128)).length + 1 := by rw [e]; rfl
      have hp := enc_pos (a / 128)
      cases i with
      | zero =>
        have hg : (enc a)[0] = UInt8.ofNat (a % 128 + 128) := by simp [e]
        rw [hg, toNat_ofNat (by omega), hl]
        omega
      | succ i =>
        have hi : i < (enc (a / 128)).length := by omega
        have hg : (enc a)[i + 1] = (enc (a / 128))[i] := by simp [e]
        rw [hg, ih (a / 128) (by omega) i hi, hl]
        omega
theorem says_take (t : List UInt8) : ∀ k (h : k < t.length), says (t.take (k + 1)) = says (t.take k) + (t[k]).toNat % 128 * 128 ^ k := by
  induction t with
  | nil => intro k h; simp at h
  | cons c r ih =>
    intro k h
    cases k with
    | zero => simp [says]
    | succ k =>
      have hk : k < r.length := by simpa using h
      rw [List.take_succ_cons, List.take_succ_cons, says, says, ih k hk]
      rw [show (c :: r)[k + 1] = r[k] from rfl, Nat.pow_succ]
      generalize 128 ^ k = p
      have e : (r[k]).toNat % 128 * (p * 128) = 128 * ((r[k]).toNat % 128 * p) := by
        rw [← Nat.mul_assoc, Nat.mul_comm]
      rw [Nat.mul_add, e]
      omega
theorem says_lt (t : List UInt8) : ∀ k, k ≤ t.length → says (t.take k) < 128 ^ k := by
  intro k
  induction k with
  | zero => intro _; simp [says]
  | succ k ih =>
    intro h
    rw [says_take t k (by omega)]
    exact pow_step (ih (by omega))
/-- A step of the document's reader. -/
theorem orRem {m c k : Nat} (hm : m < 128 ^ k) (hk : k ≤ 9) :
    bits .or .u64 (m : Int) (IntKind.u64.wrap (((c % 128 : Nat) : Int) * 2 ^ (7 * k))) = ((m + c % 128 * 128 ^ k % 18446744073709551616 : Nat) : Int) := by
  have hp : (2 : Int) ^ (7 * k) = ((128 ^ k : Nat) : Int) := by rw [← pow7]; simp
  have hd : 128 ^ k ∣ 18446744073709551616 := by
    rw [← pow7, show (18446744073709551616 : Nat) = 2 ^ 64 by decide +kernel]
    exact Nat.pow_dvd_pow 2 (by omega)
  have hlo : 128 ^ k ≤ 9223372036854775808 := by
    have := Nat.pow_le_pow_right (show 0 < 128 by omega) hk
    simpa using this
  have hmod : ((c % 128 * 128 ^ k : Nat) : Int) % 18446744073709551616 = ((c % 128 * 128 ^ k % 18446744073709551616 : Nat) : Int) := by
    rw [Int.natCast_emod]; rfl
  rw [hp, ← Int.natCast_mul, IntKind.wrap_u64, hmod]
  rw [u64_or_nat _ _ (by omega) (Nat.mod_lt _ (by omega)), Nat.or_comm, nat_join (7 * k) _ _ (by rw [pow7, Nat.mod_mod_of_dvd _ hd]; exact Nat.mul_mod_left _ _) (by rw [pow7]; exact hm), Nat.add_comm]
/-- Where the first byte that ends stands: is what was counted the number that they begin with? -/
theorem ends_yes {t : List UInt8} {k m : Nat} (hm : m < 18446744073709551616) (he : enc m = t.take (k + 1)) (hk : k < t.length) : num t = (m, k + 1) := by
  have h := num_enc m (t.drop (k + 1)) hm
  rw [he, List.take_append_drop] at h
  rw [h, List.length_take]
  congr 1
  omega
theorem ends_at {t : List UInt8} {a s : Nat} (h : num t = (a, s)) (hs : s ≠ 0) : s ≤ t.length ∧ s ≤ 10 ∧ enc a = t.take s ∧ a < 18446744073709551616 ∧ ∀ i (hi : i < t.length), i < s → (128 ≤ (t[i]).toNat ↔ i + 1 < s) := by
  obtain ⟨h1, h2, h3⟩ := num_sound h hs
  have hl : (enc a).length = s := by rw [h2, List.length_take]; omega
  have h4 := enc_length_le h3
  refine ⟨h1, by omega, h2, h3, fun i hi his => ?_⟩
  have := enc_goes a i (by omega)
  have hg : (enc a)[i]'(by omega) = t[i] := by
    simp [h2]
  rw [hg, hl] at this
  exact this
theorem ends_no {t : List UInt8} {k m : Nat} (hk : k < t.length) (hk9 : k ≤ 9) (hgo : ∀ j (h : j < t.length), j < k → 128 ≤ (t[j]).toNat) (hc : (t[k]).toNat < 128)
    (hm : m = says (t.take k) + (t[k]).toNat % 128 * 128 ^ k % 18446744073709551616) (he : enc m ≠ t.take (k + 1)) : (num t).2 = 0 := by
  cases h : num t with
  | mk a s =>
    by_cases hs : s = 0
    · exact hs
    · exfalso
      obtain ⟨h1, h2, h3, h4, h5⟩ := ends_at h hs
      have hsk : s = k + 1 := by
        by_cases h6 : s < k + 1
        · have h7 := h5 (s - 1) (by omega) (by omega)
          have h8 := hgo (s - 1) (by omega) (by omega)
          omega
        · by_cases h9 : k + 1 < s
          · have := (h5 k hk (by omega)).2 h9
            omega
          · omega
      subst hsk
      refine he ?_
      rw [← h3]
      congr 1
      have h6 := says_enc a
      rw [h3, says_take t k hk] at h6
      have h7 : (t[k]).toNat % 128 * 128 ^ k < 18446744073709551616 := by omega
      rw [hm, Nat.mod_eq_of_lt h7]
      exact h6
theorem ends_never {t : List UInt8} {k : Nat} (hk : k = t.length ∨ k = 10) (hgo : ∀ j (h : j < t.length), j < k → 128 ≤ (t[j]).toNat) : (num t).2 = 0 := by
  cases h : num t with
  | mk a s =>
    by_cases hs : s = 0
    · exact hs
    · exfalso
      obtain ⟨h1, h2, h3, h4, h5⟩ := ends_at h hs
      have h7 := h5 (s - 1) (by omega) (by omega)
      have h8 := hgo (s - 1) (by omega) (by omega)
      omega

/-- The number at a reader's place, and the place behind it; below 0: none stands there. -/
def St.next (s : St) : Nat × Int := if (num (s.bs.drop s.p)).2 = 0 then (0, -1) else ((num (s.bs.drop s.p)).1, ((s.p + (num (s.bs.drop s.p)).2 : Nat) : Int))
theorem next_no {s : St} (h : (num (s.bs.drop s.p)).2 = 0) : s.next = (0, -1) := by unfold St.next; rw [if_pos h]
theorem next_yes {s : St} {n z : Nat} (h : num (s.bs.drop s.p) = (n, z)) (hz : z ≠ 0) : s.next = (n, ((s.p + z : Nat) : Int)) := by unfold St.next; rw [h, if_neg hz]
end Oct
end Go.Proofs.Ytfechgahafbphaa
