/-
  The walk of the statement OctetPrefix.
-/
import Derived.Test.YtjnafoiijcdpfaaOctApp
namespace Go.Proofs.Ytjnafoiijcdpfaa
open Go.RowKit Oct

/-- No number's bytes are the beginning of another one's. -/
theorem Oct.prefix_eq {a b : Nat} (ha : a < 18446744073709551616) (hb : b < 18446744073709551616)
    (h : (enc a).take (min (enc a).length (enc b).length) = (enc b).take (min (enc a).length (enc b).length)) : a = b := by
  have key : ∀ {a b : Nat}, a < 18446744073709551616 → b < 18446744073709551616 → (enc a).length ≤ (enc b).length → (enc b).take (enc a).length = enc a → a = b := by
    intro a b ha hb hl h
    have h1 := num_enc a ((enc b).drop (enc a).length) ha
    have h2 := num_enc b [] hb
    rw [List.append_nil] at h2
    have e : enc a ++ (enc b).drop (enc a).length = enc b := by
      have h3 := List.take_append_drop (enc a).length (enc b)
      rwa [h] at h3
    rw [e] at h1
    rw [h1] at h2
    simp at h2
    exact h2.1
  rcases Nat.le_total (enc a).length (enc b).length with hl | hl
  · rw [Nat.min_eq_left hl, List.take_length] at h
    exact key ha hb hl h.symm
  · rw [Nat.min_eq_right hl, List.take_length] at h
    exact (key hb ha hl h).symm

/-- How many bytes are still to be counted. -/
def Oct.moreOf (m : Nat) : Nat := if m = 0 then 0 else (enc m).length
theorem Oct.moreOf_pos {m : Nat} (h : 0 < m) : moreOf m = 1 + moreOf (m / 128) := by
  unfold moreOf
  rw [if_neg (by omega)]
  by_cases hs : m < 128
  · rw [enc_small hs, if_pos (by omega)]; rfl
  · rw [enc_big (by omega), if_neg (by omega)]; simp; omega
theorem Oct.enc_more (a : Nat) : (enc a).length = 1 + moreOf (a / 128) := by
  by_cases h : 0 < a
  · rw [← moreOf_pos h, moreOf, if_neg (by omega)]
  · obtain rfl : a = 0 := by omega
    rw [enc_small (by omega)]; rfl

def Oct.SizeRel (L : Nat) (size n : Value) : Prop := ∃ j m : Nat, size = .int .i64 j ∧ n = .int .u64 m ∧ L = j + moreOf m

/-- 'b[:k]'. -/
theorem Oct.run_cutH (ao : Option Addr) (n cap k : Nat) (hk : k ≤ cap) (wx : World) :
    (Instr.slice 22 (.slice ao n cap) none (some (.int .i64 (k : Int))) none).run Try.prog wx = .ok (.slice ao k cap) wx := by
  have he : Try.prog.elem 22 = 5 := by simp [Program.elem, Try.underlying22]
  have hz : (Go.sizeOf 5).run Try.prog wx = .ok 1 wx := by kernel_rfl
  rw [run_slice_h wx 22 _ _ _ (by rw [he]; exact Try.underlying22) .i64 _ (by omega) (by omega), he, hz]
  cases ao <;> simp [Result.andThen, sliced, Addr.add]

/-- The bytes of a slice's beginning, as a text. -/
theorem Oct.run_strTake {w : World} {ao : Option Addr} {cap : Nat} {bs : List UInt8} (h : Row w ao cap bs) (k : Nat) (hk : k ≤ bs.length) (q : Nat) :
    (convert 22 9 (.slice ao k cap)).run Try.prog (w.drewN q) = .ok (.string ⟨(bs.take k).toArray⟩) (w.drewN q) := by
  have h1 : Row (w.drewN q) ao cap bs := ⟨h.len, h.fits, h.nil, h.cell⟩
  exact run_strN (h1.take k) (by rw [List.length_take]; omega)

/-- What the walk is told of the two beginnings of length K: their slices, their texts, and whether these are the same. -/
theorem Oct.both_cuts {w : World} {a b : Nat} {ao1 ao2 : Option Addr} {cap1 cap2 : Nat} {X Y : List UInt8} (ha : a < 18446744073709551616) (hb : b < 18446744073709551616) (hX : X = enc a) (hY : Y = enc b)
    (h1 : Row w ao1 cap1 X) (h2 : Row w ao2 cap2 Y) :
    ∃ S1 S2 : List UInt8, (∀ wx, (Instr.slice 22 (.slice ao1 X.length cap1) none (some (.int .i64 (min X.length Y.length : Nat))) none).run Try.prog wx = .ok (.slice ao1 (min X.length Y.length) cap1) wx) ∧
      (∀ wx, (Instr.slice 22 (.slice ao2 Y.length cap2) none (some (.int .i64 (min X.length Y.length : Nat))) none).run Try.prog wx = .ok (.slice ao2 (min X.length Y.length) cap2) wx) ∧
      (∀ q, (convert 22 9 (.slice ao1 (min X.length Y.length) cap1)).run Try.prog (w.drewN q) = .ok (.string ⟨S1.toArray⟩) (w.drewN q)) ∧
      (∀ q, (convert 22 9 (.slice ao2 (min X.length Y.length) cap2)).run Try.prog (w.drewN q) = .ok (.string ⟨S2.toArray⟩) (w.drewN q)) ∧
      (S1 == S2) = decide (a = b) := by
  have hm1 := Nat.min_le_left X.length Y.length
  have hm2 := Nat.min_le_right X.length Y.length
  have l1 := h1.len
  have l2 := h2.len
  refine ⟨X.take (min X.length Y.length), Y.take (min X.length Y.length), fun wx => run_cutH _ _ _ _ (by omega) wx, fun wx => run_cutH _ _ _ _ (by omega) wx, fun q => run_strTake h1 _ hm1 q, fun q => run_strTake h2 _ hm2 q, ?_⟩
  subst hX hY
  by_cases e : a = b
  · subst e; simp
  · rw [decide_eq_false e, beq_eq_false_iff_ne]
    exact fun h => e (prefix_eq ha hb h)

set_option maxRecDepth 100000 in
set_option maxHeartbeats 4000000 in
theorem law_prefix (a b : Nat) (ha : a < 18446744073709551616) (hb : b < 18446744073709551616) (ao : Option Addr) (cap : Nat) (tail : List UInt8) (w : World) (hrow : Row w ao cap tail) :
    Calls Try.prog 7 #[.int .u64 a, .int .u64 b, .slice ao tail.length cap] w fun e w' => e = .returned (.bool true) ∧ Below w.heap.size w w' := by
  by_cases ht : 1024 < tail.length
  · clear hrow ha hb
    go_enter Try.func7, Try.ntmps7
    go_wp2_with (go_at_call 9; refine (works_any _).mono ?_; rintro x w1 ⟨rfl, b1⟩)
    go_ret
    exact ⟨rfl, b1⟩
  · have hla := enc_length_le ha
    have hlb := enc_length_le hb
    have hpa := enc_pos a
    have hpb := enc_pos b
    obtain ⟨X, hX⟩ : ∃ X, X = enc a := ⟨_, rfl⟩
    obtain ⟨Y, hY⟩ : ∃ Y, Y = enc b := ⟨_, rfl⟩
    rw [← hX] at hla hpa
    rw [← hY] at hlb hpb
    have hput1 := fun w => putNil w a X.length X hX.symm rfl hla
    have hput2 := fun w => putNil w b Y.length Y hY.symm rfl hlb
    have HX := Lib.hid hX
    have HY := Lib.hid hY
    have HA := Lib.hid ha
    have HB := Lib.hid hb
    have HR := Lib.hid hrow
    have HP1 := Lib.hid hput1
    have HP2 := Lib.hid hput2
    clear hX hY ha hb hrow hput1 hput2
    go_enter Try.func7, Try.ntmps7
    go_wp2_with fail
    refine (HP1.out _).mono ?_
    rintro e w1 ⟨ao1, cap1, rfl, r1, b1⟩
    have HR1 := Lib.hid r1
    have HB1 := Lib.hid b1
    clear r1 b1
    go_wp2_with fail
    refine (HP2.out _).mono ?_
    rintro e w2 ⟨ao2, cap2, rfl, r2, b2⟩
    have HR12 := Lib.hid (HR1.out.keptAll b2)
    have HR2 := Lib.hid r2
    have HB2 := Lib.hid (HB1.out.trans (b2.mono HB1.out.size))
    clear r2 b2
    go_wp2_with fail
    go_loop [9, 10] (fun size n => SizeRel X.length size n) (fun _ n => (intOf n).toNat)
    case atStart =>
      exact ⟨1, a / 128, rfl, by simp, by rw [HX.out]; exact enc_more a⟩
    case round =>
      obtain ⟨j, m, rfl, rfl, hL⟩ := hrel
      by_cases hm : 0 < m
      · have hjl : j ≤ 10 := by omega
        have HL := Lib.hid hL
        clear hL
        go_wp2
        go_round
        case rel => exact ⟨j + 1, m / 128, by go_num, by simp, by rw [HL.out, moreOf_pos hm]; omega⟩
        case measure => simp [intOf]; omega
      · obtain rfl : m = 0 := by omega
        obtain rfl : j = X.length := by simpa [moreOf] using hL.symm
        clear hL hm
        obtain ⟨S1, S2, s1, s2, v1, v2, hs⟩ := both_cuts HA.out HB.out HX.out HY.out HR12.out HR2.out
        have hab : ((a : Int) == (b : Int)) = (S1 == S2) := by
          rw [hs, Bool.eq_iff_iff]; simp; omega
        cases hS : (S1 == S2) <;> rw [hS] at hab
        all_goals
          rcases Nat.lt_or_ge Y.length X.length with hmin | hmin
          all_goals
            first
              | rw [Nat.min_eq_left hmin] at s1 s2 v1 v2
              | rw [Nat.min_eq_right (Nat.le_of_lt hmin)] at s1 s2 v1 v2
            clear hs
            go_wp2_with fail
            go_quiet (fail)
            clear s1 s2 v1 v2
            go_wp2_with (at_builtin; refine wpList_append_row rfl (.tmp 53) (.tmp 54) rfl w.heap.size (.slice (some ⟨w2.heap.size, 0, none⟩) 0 0) 0 [] rfl (own_empty (w := w2.drewN nq) HB2.out.size) ao1 X.length cap1 X rfl rfl ((HR12.out.drewN _).alloc _) (by omega) (by have := HB2.out.size; simp; omega) ?_)
            intro x3 w3 own3 g3
            have b3 : Below w.heap.size w w3 := ((below_drewN HB2.out nq).alloc (below_drewN HB2.out nq).size _).grown g3 (by have := HB2.out.size; simp; omega) (fun k hk => by simp [Value.ownBlock] at hk; have := HB2.out.size; omega)
            have HO3 := Lib.hid own3
            have HB3 := Lib.hid b3
            clear own3 g3 b3
            go_wp2_with (at_builtin; refine wpList_append_row rfl (.tmp 55) (.tmp 56) rfl w.heap.size x3 X.length X rfl (by simpa using HO3.out) ao tail.length cap tail rfl rfl (HR.out.keptAll HB3.out) (by omega) HB3.out.size ?_)
            intro x4 w4 own4 g4
            have b4 : Below w.heap.size w w4 := HB3.out.grown g4 HB3.out.size (fun k hk => (HO3.out.lt k hk).1)
            obtain ⟨ao4, c4, hx4⟩ := own_shape own4
            subst hx4
            have HO4 := Lib.hid own4
            have HB4 := Lib.hid b4
            clear own4 g4 b4
            go_wp2_with fail
            refine (newN_any _ ao4 c4 (X.length + tail.length) (X ++ tail) (Row.ofOwn (by rw [List.length_append]; exact HO4.out)) (by simp) (by omega)).mono ?_
            rintro e w5 ⟨R, vR, rfl, hR5, b5⟩
            have HR5 := Lib.hid hR5
            have HB5 := Lib.hid (HB4.out.trans (b5.mono HB4.out.size))
            have hnum : Calls Try.prog 19 #[ptr R, .int .u64 18446744073709551615] w5 (Turned w4.heap.size w5 R vR (.int .u64 a) ⟨X ++ tail, X.length, 0, 0⟩) := by
              have h := numberMax w4.heap.size w5 R vR [] a tail HA.out (by rw [List.nil_append, ← HX.out]; exact HR5.out)
              rw [List.nil_append, ← HX.out] at h
              simpa using h
            have HN := Lib.hid hnum
            clear hR5 b5 hnum
            unfold ptr
            go_wp2_with fail
            refine HN.out.mono ?_
            rintro e w6 ⟨rfl, hR6, g6⟩
            have hleft : Calls Try.prog 29 #[ptr R] w6 (JustRead w6 (.int .i64 tail.length)) := by
              have h := left_any _ w6 R vR _ hR6
              rwa [show (((X ++ tail).length : Int) - X.length) = (tail.length : Int) by simp; omega] at h
            have HL := Lib.hid hleft
            have HB6 := Lib.hid (HB5.out.trans (grownBy_below g6 HB5.out.size (Nat.le_trans HB4.out.size hR6.low)))
            clear hR6 g6 hleft
            go_wp2_with fail
            refine HL.out.mono ?_
            rintro e w7 ⟨rfl, q7, rfl⟩
            go_wp2_with fail
            refine (works_any _).mono ?_
            rintro e w8 ⟨rfl, b8⟩
            have b8' := (below_drewN HB6.out q7).trans (b8.mono (below_drewN HB6.out q7).size)
            have HB8 := Lib.hid b8'
            clear b8 b8'
            go_wp2_with fail
            go_ret
            exact ⟨rfl, HB8.out⟩
end Go.Proofs.Ytjnafoiijcdpfaa
