/-
  The anchor of the statements of layer 1 (the chapter's examples): it returns true, and writes nothing that was there.
-/
import Derived.Test.YtfechgahafbphaaOctNameOf
namespace Go.Proofs.Ytfechgahafbphaa
open Go.RowKit Oct

theorem Oct.Below.grownBy {w w' : World} (h : Below w.heap.size w w') (row : Option Nat) : w.grownBy w' row := ⟨h.os, h.tape, h.output, h.size, fun k hk _ => h.block k hk⟩
theorem Oct.grownBy_below {w w' : World} {B : Nat} {R : Nat} (h : w.grownBy w' (some R)) (hB : B ≤ w.heap.size) (hR : B ≤ R) : Below B w w' := (Below.refl B w).grown h hB (fun k hk => by cases hk; exact hR)
/-- A reader stays as it is where a block below its own is written. -/
theorem Oct.Rdr.keptLow {B : Nat} {w w' : World} {S R : Nat} {v : Value} {s : St} (h : Rdr B w S v s) (g : w.grownBy w' (some R)) (hR : R < B) : Rdr B w' S v s :=
  h.kept g (by have := h.low; simp; omega) (by
    cases hv : v.ownBlock with
    | none => exact .inl rfl
    | some k =>
      have := (h.row.2.lt k hv).1
      exact .inr (by simp; omega))
theorem Oct.Rdr.keptAll {B : Nat} {w w' : World} {S : Nat} {v : Value} {s : St} (h : Rdr B w S v s) (g : Below w.heap.size w w') : Rdr B w' S v s :=
  h.kept (Below.grownBy g none) (by simp) (by cases v.ownBlock <;> simp)

theorem Oct.below_drewN {B : Nat} {a w : World} (h : Below B a w) (n : Nat) : Below B a (w.drewN n) := ⟨h.os, h.tape, h.output, h.size, h.block⟩
theorem Oct.own_mono {w : World} {B B' : Nat} {e : TypeId} {k : Nat} {v : Value} {n : Nat} {xs : List Value} (h : w.ownsRow B e k v n xs) (hB : B' ≤ B) : w.ownsRow B' e k v n xs := by
  refine ⟨h.1, ?_⟩
  rcases h.2 with h2 | ⟨g, c, cur, h1, h2, h3⟩
  · exact .inl h2
  · exact .inr ⟨g, c, cur, h1, Nat.le_trans hB h2, h3⟩
theorem Oct.Rdr.mono {B B' : Nat} {w : World} {R : Nat} {v : Value} {s : St} (h : Rdr B w R v s) (hB : B' ≤ B) : Rdr B' w R v s :=
  ⟨h.at_, h.small, Nat.le_trans hB h.low, h.row.1, own_mono h.row.2 hB⟩

/-- A slice of n bytes, in new memory. -/
def Oct.NewRow (w : World) (out : List UInt8) (n : Nat) (e : Ending) (w' : World) : Prop :=
  ∃ ao cap, e = .returned (.slice ao n cap) ∧ Row w' ao cap out ∧ Below w.heap.size w w'
def Oct.NewRowOk (w : World) (out : List UInt8) (n : Nat) (e : Ending) (w' : World) : Prop :=
  ∃ ao cap, e = .returned (.tuple #[.slice ao n cap, .int .i64 0]) ∧ Row w' ao cap out ∧ Below w.heap.size w w'

theorem Oct.nilRow (w : World) : Row w none 0 [] := ⟨Nat.le_refl _, Nat.zero_le _, fun _ => ⟨rfl, rfl⟩, fun a h => by cases h⟩
theorem Oct.run_strN {w : World} {ao : Option Addr} {cap n : Nat} {bs : List UInt8} (h : Row w ao cap bs) (hn : bs.length = n) :
    (convert 22 9 (.slice ao n cap)).run Try.prog w = .ok (.string ⟨bs.toArray⟩) w := by
  subst hn; exact run_str h
theorem Oct.Row.keptAll {w w' : World} {ao : Option Addr} {cap : Nat} {bs : List UInt8} (h : Row w ao cap bs) (g : Below w.heap.size w w') : Row w' ao cap bs := h.grown (Below.grownBy g none)

/-- octet.Put onto nothing. -/
theorem putNil (w : World) (N n : Nat) (out : List UInt8) (ho : enc N = out) (hn : out.length = n) (h10 : n ≤ 10) :
    Calls Try.prog 83 #[.slice none 0 0, .int .u64 N] w (NewRow w out n) := by
  subst ho hn
  refine (put_any w none 0 [] N h10 (nilRow w) (by simp)).mono fun e w' ⟨v, he, own, bel⟩ => ?_
  obtain ⟨ao, c, rfl⟩ := own_shape own
  exact ⟨ao, c, by simpa using he, by simpa using Row.ofOwn own, bel⟩
theorem putNameNil (w : World) (s : ByteArray) (n : Nat) (out : List UInt8) (hs : s.size ≤ 1000) (hi : isName s.data.toList = true) (ho : enc s.size ++ s.data.toList = out) (hn : out.length = n) :
    Calls Try.prog 82 #[.slice none 0 0, .string s] w (NewRowOk w out n) := by
  subst ho hn
  refine (putName_yes w none 0 [] s (nilRow w) (by simp) (by omega) hi).mono fun e w' ⟨v, he, own, bel⟩ => ?_
  obtain ⟨ao, c, rfl⟩ := own_shape own
  exact ⟨ao, c, by simpa using he, by simpa using Row.ofOwn own, bel⟩

theorem Oct.ex1 : (⟨[172, 2, 128, 0], 0, 0, 0⟩ : St).number 300 = (300, ⟨[172, 2, 128, 0], 2, 0, 0⟩) := by rfl
theorem Oct.ex2 : (⟨[172, 2, 128, 0], 2, 0, 0⟩ : St).number 300 = (0, ⟨[172, 2, 128, 0], 2, 2, 3⟩) := by rfl
theorem Oct.ex3 : (⟨[172, 2], 0, 0, 0⟩ : St).number 299 = (0, ⟨[172, 2], 0, 0, 4⟩) := by rfl
theorem Oct.enc0 : enc 0 = [0] := enc_small (by omega)
theorem Oct.enc300 : enc 300 = [172, 2] := by rw [enc_big (by omega), enc_small (by omega)]; rfl
theorem Oct.enc7 : enc 7 = [7] := enc_small (by omega)
/-- The texts Nat.rec, a-b, a1, and the empty one. -/
theorem putName_natRec (w : World) : Calls Try.prog 82 #[.slice none 0 0, .string ⟨#[78, 97, 116, 46, 114, 101, 99]⟩] w (NewRowOk w [7, 78, 97, 116, 46, 114, 101, 99] 8) :=
  putNameNil w _ 8 _ (by decide +kernel) (by decide +kernel) (by show enc 7 ++ _ = _; rw [enc7]; rfl) rfl
theorem putName_aMinusB (w : World) : Calls Try.prog 82 #[.slice none 0 0, .string ⟨#[97, 45, 98]⟩] w (NotName w) :=
  putName_no w none 0 0 _ (by decide +kernel) (by decide +kernel)
theorem name_aOne (w : World) : Calls Try.prog 84 #[.string ⟨#[97, 49]⟩] w (Says w true) := name_any w ⟨#[97, 49]⟩ (by decide +kernel)
theorem name_empty (w : World) : Calls Try.prog 84 #[.string ⟨#[]⟩] w (Says w false) := name_any w ⟨#[]⟩ (by decide +kernel)
theorem put_0 (w : World) : Calls Try.prog 83 #[.slice none 0 0, .int .u64 0] w (NewRow w [0] 1) := putNil w 0 1 [0] enc0 rfl (by omega)
theorem put_300 (w : World) : Calls Try.prog 83 #[.slice none 0 0, .int .u64 300] w (NewRow w [172, 2] 2) := putNil w 300 2 [172, 2] enc300 rfl (by omega)

/-- A new slice of bytes. -/
theorem Oct.litRow (w : World) (bs : List UInt8) (cs : Array Value) (n : Nat) (hc : cs.toList = cells bs) (hn : bs.length = n) (h1 : n ≤ 1000) : Row (w.alloc (.cells cs 5)) (some ⟨w.heap.size, 0, none⟩) n bs := by
  refine ⟨by omega, by unfold maxLen; omega, by simp, fun a ha j u hu => ?_⟩
  cases ha
  rw [Addr.add_lit, World.cell?_alloc_at _ _ _ _ rfl, ← hu, ← hc]
  simp

set_option maxRecDepth 100000 in
set_option maxHeartbeats 4000000 in
theorem works_any (w : World) : Calls Try.prog 15 #[] w fun e w' => e = .returned (.bool true) ∧ Below w.heap.size w w' := by
  go_enter Try.func15, Try.ntmps15
  go_wp2_with fail
  refine (new_any _ _ 4 [172, 2, 128, 0] (litRow w [172, 2, 128, 0] _ 4 rfl rfl (by omega)) (by simp)).mono ?_
  rintro e w1 ⟨R, vR, rfl, hR, bR⟩
  have b1 : Below w.heap.size w w1 := ((Below.refl _ _).alloc (Nat.le_refl _) _).trans (bR.mono (by simp))
  have HR := Lib.hid (hR.mono (B' := w.heap.size) (by simp))
  have HB := Lib.hid b1
  clear hR bR b1
  unfold ptr
  go_wp2_with fail
  refine (new_any _ _ 2 [172, 2] (litRow w1 [172, 2] _ 2 rfl rfl (by omega)) (by simp)).mono ?_
  rintro e w2 ⟨S, vS, rfl, hS, bS⟩
  have b2 : Below w1.heap.size w1 w2 := ((Below.refl _ _).alloc (Nat.le_refl _) _).trans (bS.mono (by simp))
  have HR2 := Lib.hid (HR.out.keptAll b2)
  have HS := Lib.hid (hS.mono (B' := w1.heap.size) (by simp))
  have HRS := Lib.hid HR.out.lt
  have HB2 := Lib.hid (HB.out.trans (b2.mono HB.out.size))
  clear hS bS b2
  unfold ptr
  go_wp2_with fail
  have n1 : Calls Try.prog 17 #[ptr R, .int .u64 300] w2 (Turned w.heap.size w2 R vR (.int .u64 300) ⟨[172, 2, 128, 0], 2, 0, 0⟩) := by
    have h := number_any _ w2 R vR _ HR2.out 300
    rw [ex1] at h
    exact h
  refine n1.mono ?_
  rintro e w3 ⟨rfl, hR3, gR3⟩
  have HR3 := Lib.hid hR3
  have HS3 := Lib.hid (HS.out.keptLow gR3 HRS.out)
  have HB3 := Lib.hid (HB2.out.trans (grownBy_below gR3 HB2.out.size hR3.low))
  clear n1 hR3 gR3
  go_wp2_with fail
  refine (at_any _ w3 R vR _ HR3.out).mono ?_
  rintro e w' ⟨rfl, rfl⟩
  go_wp2_with fail
  have n1 : Calls Try.prog 17 #[ptr R, .int .u64 300] w3 (Turned w.heap.size w3 R vR (.int .u64 0) ⟨[172, 2, 128, 0], 2, 2, 3⟩) := by
    have h := number_any _ w3 R vR _ HR3.out 300
    rw [ex2] at h
    exact h
  refine n1.mono ?_
  rintro e w4 ⟨rfl, hR4, gR4⟩
  have HR4 := Lib.hid hR4
  have HS4 := Lib.hid (HS3.out.keptLow gR4 HRS.out)
  have HB4 := Lib.hid (HB3.out.trans (grownBy_below gR4 HB3.out.size hR4.low))
  clear n1 hR4 gR4
  go_wp2_with fail
  refine (bad_any _ w4 R vR _ HR4.out).mono ?_
  rintro e w' ⟨rfl, q, rfl⟩
  go_wp2_with fail
  have n1 : Calls Try.prog 17 #[ptr S, .int .u64 299] (w4.drewN q) (Turned w1.heap.size (w4.drewN q) S vS (.int .u64 0) ⟨[172, 2], 0, 0, 4⟩) := by
    have h := number_any _ (w4.drewN q) S vS _ (HS4.out.drewN q) 299
    rw [ex3] at h
    exact h
  refine n1.mono ?_
  rintro e w5 ⟨rfl, hS5, gS5⟩
  have HS5 := Lib.hid hS5
  have HB5 := Lib.hid (HB4.out.trans (grownBy_below (grownBy_drewN gS5) HB4.out.size (Nat.le_trans HB.out.size hS5.low)))
  clear n1 hS5 gS5
  go_wp2_with fail
  refine (bad_any _ w5 S vS _ HS5.out).mono ?_
  rintro e w' ⟨rfl, q2, rfl⟩
  go_wp2_with fail
  refine (putName_natRec _).mono ?_
  rintro e w6 ⟨ao, cap, rfl, row6, b6⟩
  have HR6 := Lib.hid row6
  have HB6 := Lib.hid ((below_drewN HB5.out q2).trans (Below.mono b6 (below_drewN HB5.out q2).size))
  clear row6 b6
  go_wp2_with fail
  refine (putName_aMinusB _).mono ?_
  rintro e w' ⟨rfl, rfl⟩
  go_wp2_with fail
  refine (put_0 _).mono ?_
  rintro e w7 ⟨ao7, cap7, rfl, row7, b7⟩
  have HR7 := Lib.hid (HR6.out.keptAll b7)
  have HB7 := Lib.hid (HB6.out.trans (b7.mono HB6.out.size))
  have cv7 := run_strN (n := 1) row7 rfl
  clear row7 b7
  go_wp2_with fail
  refine (put_300 _).mono ?_
  rintro e w8 ⟨ao8, cap8, rfl, row8, b8⟩
  have HB8 := Lib.hid (HB7.out.trans (b8.mono HB7.out.size))
  have cv8 := run_strN (n := 2) row8 rfl
  have cv6 := run_strN (n := 8) (HR7.out.keptAll b8) rfl
  clear row8 b8 cv7
  go_wp2_with fail
  refine (name_aOne _).mono ?_
  rintro e w' ⟨rfl, rfl⟩
  go_wp2_with fail
  refine (name_empty _).mono ?_
  rintro e w' ⟨rfl, rfl⟩
  go_wp2_with fail
  go_ret
  exact ⟨rfl, HB8.out⟩
end Go.Proofs.Ytfechgahafbphaa
