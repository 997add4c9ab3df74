/-
  Plain mathematics of layer 1 (octet): a number's bytes, what is read of bytes, names. Nothing of the program is named here.
-/
import Derived.Laws.BitsAllLaws
namespace Go.Proofs.Ytfechgahafbphaa
namespace Oct

/-- A number's bytes. -/
def enc (n : Nat) : List UInt8 := if h : n < 128 then [UInt8.ofNat n] else UInt8.ofNat (n % 128 + 128) :: enc (n / 128)
termination_by n
decreasing_by omega

/-- The number that bytes begin with, and how many bytes it has (0: none): place i, n so far. -/
def scan : List UInt8 → Nat → Nat → Nat × Nat
  | [], _, _ => (0, 0)
  | c :: r, i, n =>
    if i = 9 ∧ c.toNat ≠ 1 then (0, 0)
    else if 128 ≤ c.toNat then scan r (i + 1) (n + c.toNat % 128 * 128 ^ i)
    else if c.toNat = 0 ∧ 0 < i then (0, 0)
    else (n + c.toNat % 128 * 128 ^ i, i + 1)

def num (bs : List UInt8) : Nat × Nat := scan bs 0 0

theorem enc_small {n : Nat} (h : n < 128) : enc n = [UInt8.ofNat n] := by rw [enc]; simp [h]
theorem enc_big {n : Nat} (h : 128 ≤ n) : enc n = UInt8.ofNat (n % 128 + 128) :: enc (n / 128) := by
  rw [enc]; simp [show ¬ n < 128 by omega]

theorem enc_pos (n : Nat) : 0 < (enc n).length := by rw [enc]; split <;> simp

theorem toNat_ofNat {n : Nat} (h : n < 256) : (UInt8.ofNat n).toNat = n := by simp [UInt8.toNat_ofNat']; omega

/-- What was put is read. -/
theorem scan_enc (k : Nat) : ∀ (m i n : Nat) (t : List UInt8), i + k = 9 → m < 2 * 128 ^ k → (0 < i → 0 < m) →
    scan (enc m ++ t) i n = (n + m * 128 ^ i, i + (enc m).length) := by
  induction k with
  | zero =>
    intro m i n t hi hm h0
    obtain rfl : i = 9 := by omega
    obtain rfl : m = 1 := by have := h0 (by omega); simp at hm; omega
    simp [enc_small, scan]
  | succ k ih =>
    intro m i n t hi hm h0
    by_cases hs : m < 128
    · rw [enc_small hs]
      have e : (UInt8.ofNat m).toNat = m := toNat_ofNat (by omega)
      simp only [List.cons_append, List.nil_append, scan, e, List.length_singleton]
      rw [if_neg (by omega), if_neg (by omega), if_neg (by intro ⟨a, b⟩; have := h0 b; omega), Nat.mod_eq_of_lt hs]
    · rw [enc_big (by omega)]
      have e : (UInt8.ofNat (m % 128 + 128)).toNat = m % 128 + 128 := toNat_ofNat (by omega)
      simp only [List.cons_append, scan, e, List.length_cons]
      rw [if_neg (by omega), if_pos (by omega), ih (m / 128) (i + 1) _ t (by omega) (by rw [Nat.pow_succ] at hm; omega) (by omega)]
      rw [show (m % 128 + 128) % 128 = m % 128 by omega, Nat.pow_succ]
      refine Prod.ext ?_ (by simp; omega)
      have hd : m = m % 128 + 128 * (m / 128) := by omega
      simp only
      generalize 128 ^ i = p
      generalize hq : m / 128 = q at *
      generalize hr : m % 128 = r at *
      subst hd
      rw [Nat.add_mul, Nat.mul_comm p 128, ← Nat.mul_assoc, Nat.mul_comm q 128]; omega

theorem num_enc (m : Nat) (t : List UInt8) (h : m < 18446744073709551616) : num (enc m ++ t) = (m, (enc m).length) := by
  unfold num
  rw [scan_enc 9 m 0 0 t (by omega) (by simpa using h) (by omega)]
  simp

/-- What is read, put again, is the bytes that were read. -/
theorem scan_sound : ∀ (bs : List UInt8) (i n a s : Nat), i ≤ 9 → scan bs i n = (a, s) → s ≠ 0 →
    ∃ m, a = n + m * 128 ^ i ∧ i < s ∧ s - i ≤ bs.length ∧ enc m = bs.take (s - i) ∧ m < 2 * 128 ^ (9 - i) ∧ (0 < i → 0 < m) := by
  intro bs
  induction bs with
  | nil => intro i n a s _ h hs; simp [scan] at h; omega
  | cons c r ih =>
    intro i n a s hi h hs
    have hc : c.toNat < 256 := c.toNat_lt
    rw [scan] at h
    by_cases h9 : i = 9 ∧ c.toNat ≠ 1
    · rw [if_pos h9] at h; simp at h; omega
    rw [if_neg h9] at h
    by_cases hb : 128 ≤ c.toNat
    · rw [if_pos hb] at h
      obtain ⟨m, ha, h1, h2, h3, h4, h5⟩ := ih (i + 1) _ a s (by omega) h hs
      have hm : 0 < m := h5 (by omega)
      refine ⟨c.toNat % 128 + 128 * m, ?_, by omega, by simp; omega, ?_, ?_, by omega⟩
      · rw [ha, Nat.pow_succ, Nat.add_mul]
        generalize 128 ^ i = p
        rw [Nat.mul_comm p 128, ← Nat.mul_assoc, Nat.mul_comm m 128]; omega
      · rw [enc_big (by omega), show (c.toNat % 128 + 128 * m) / 128 = m by omega, show (c.toNat % 128 + 128 * m) % 128 = c.toNat % 128 by omega, h3,
          show s - i = (s - (i + 1)) + 1 by omega, List.take_succ_cons]
        congr 1
        rw [show c.toNat % 128 + 128 = c.toNat by omega]; simp
      · have : 9 - i = (9 - (i + 1)) + 1 := by omega
        rw [this, Nat.pow_succ]; omega
    · rw [if_neg hb] at h
      by_cases h0 : c.toNat = 0 ∧ 0 < i
      · rw [if_pos h0] at h; simp at h; omega
      rw [if_neg h0] at h
      simp only [Prod.mk.injEq] at h
      obtain ⟨rfl, rfl⟩ := h
      refine ⟨c.toNat, by rw [Nat.mod_eq_of_lt (by omega)], by omega, by simp, ?_, ?_, by omega⟩
      · rw [enc_small (by omega), show i + 1 - i = 1 by omega]; simp
      · by_cases e : i = 9
        · subst e; simp; omega
        · have : 9 - i = (8 - i) + 1 := by omega
          rw [this, Nat.pow_succ]
          have : 0 < 128 ^ (8 - i) := Nat.pow_pos (by omega)
          omega

theorem num_sound {bs : List UInt8} {a s : Nat} (h : num bs = (a, s)) (hs : s ≠ 0) :
    s ≤ bs.length ∧ enc a = bs.take s ∧ a < 18446744073709551616 := by
  obtain ⟨m, ha, _, h2, h3, h4, _⟩ := scan_sound bs 0 0 a s (by omega) h hs
  simp at ha h2 h3 h4
  subst ha
  exact ⟨h2, h3, h4⟩

theorem num_zero {bs : List UInt8} {a : Nat} (h : num bs = (a, 0)) : a = 0 := by
  have : ∀ (bs : List UInt8) (i n a : Nat), scan bs i n = (a, 0) → a = 0 := by
    intro bs
    induction bs with
    | nil => intro i n a h; simp [scan] at h; omega
    | cons c r ih =>
      intro i n a h
      rw [scan] at h
      split at h
      · simp at h; omega
      · split at h
        · exact ih _ _ _ h
        · split at h <;> simp at h; omega
  exact this _ _ _ _ h

theorem enc_length_le {n : Nat} (h : n < 18446744073709551616) : (enc n).length ≤ 10 := by
  have := num_sound (num_enc n [] h) (by have := enc_pos n; omega)
  have key : ∀ (k m : Nat), m < 2 * 128 ^ k → (enc m).length ≤ k + 1 := by
    intro k
    induction k with
    | zero => intro m hm; rw [enc_small (by simp at hm; omega)]; simp
    | succ k ih =>
      intro m hm
      by_cases hs : m < 128
      · rw [enc_small hs]; simp
      · rw [enc_big (by omega)]
        have := ih (m / 128) (by rw [Nat.pow_succ] at hm; omega)
        simp; omega
  exact key 9 n (by simpa using h)

/-- May a byte stand in a name? -/
def inName (c : Nat) : Bool := (decide (97 ≤ c) && decide (c ≤ 122)) || (decide (65 ≤ c) && decide (c ≤ 90)) || (decide (48 ≤ c) && decide (c ≤ 57)) || decide (c = 95) || decide (c = 46) || decide (c = 39)
def isName (s : List UInt8) : Bool := decide (0 < s.length) && decide (s.length ≤ 32) && s.all fun c => inName c.toNat

/-- What a reader is: its bytes, its place, where and which its first error was. -/
structure St where
  bs : List UInt8
  p : Nat
  bad : Int
  err : Int

def St.fail (s : St) (k e : Int) : St := if e = 0 ∨ s.err ≠ 0 then s else { s with bad := k, err := e }
def St.stop (s : St) (e : Int) : St := s.fail s.p e
def St.goTo (s : St) (p : Nat) : St := { s with p := p }
def St.number (s : St) (most : Nat) : Nat × St :=
  if s.err ≠ 0 then (0, s)
  else if (num (s.bs.drop s.p)).2 = 0 then (0, s.stop 3)
  else if most < (num (s.bs.drop s.p)).1 then (0, s.stop 4)
  else ((num (s.bs.drop s.p)).1, s.goTo (s.p + (num (s.bs.drop s.p)).2))
def St.byte (s : St) : Nat × St :=
  if s.err ≠ 0 then (0, s)
  else if h : s.p < s.bs.length then (s.bs[s.p].toNat, s.goTo (s.p + 1))
  else (0, s.stop 3)
/-- The name that bytes begin with, and how many bytes it has; else which error. -/
def nameAt (b : List UInt8) : List UInt8 × Nat × Int :=
  if (num b).2 = 0 then ([], 0, 3)
  else if 32 < (num b).1 then ([], 0, 4)
  else if b.length < (num b).2 + (num b).1 then ([], 0, 3)
  else if isName ((b.drop (num b).2).take (num b).1) then ((b.drop (num b).2).take (num b).1, (num b).2 + (num b).1, 0)
  else ([], 0, 5)
def St.name (s : St) : List UInt8 × St :=
  if s.err ≠ 0 then ([], s)
  else if (nameAt (s.bs.drop s.p)).2.2 ≠ 0 then ([], s.stop (nameAt (s.bs.drop s.p)).2.2)
  else ((nameAt (s.bs.drop s.p)).1, s.goTo (s.p + (nameAt (s.bs.drop s.p)).2.1))

end Oct
end Go.Proofs.Ytfechgahafbphaa
