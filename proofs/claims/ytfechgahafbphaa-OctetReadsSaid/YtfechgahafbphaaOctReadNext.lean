/-
  The document's own reader: next, Number and Name.
-/
import Derived.Test.YtfechgahafbphaaOctReadRef
namespace Go.Proofs.Ytfechgahafbphaa
open Go.RowKit Oct

def Oct.NextRel (w : World) (t : List UInt8) (n i : Value) (wr : World) : Prop :=
  ∃ k m q : Nat, i = .int .i64 k ∧ n = .int .u64 m ∧ wr = w.drewN q ∧ k ≤ t.length ∧ k ≤ 10 ∧ m < 18446744073709551616 ∧ (k ≤ 9 → m = says (t.take k)) ∧ ∀ j (h : j < t.length), j < k → 128 ≤ (t[j]).toNat
theorem Oct.ret_next {x : Nat × Int} {a : Nat} {b A B : Int} (hx : x = (a, b)) (hA : A = (a : Int)) (hB : B = b) :
    Ending.returned (.tuple #[.int .u64 A, .int .i64 B]) = .returned (.tuple #[.int .u64 x.1, .int .i64 x.2]) := by subst hx hA hB; rfl

theorem Oct.next_step {t : List UInt8} {k m c M : Nat} (hin : k < t.length) (hk : k ≤ 9) (hm : k ≤ 9 → m = says (t.take k)) (hc : c = (t[k]).toNat) (hM : M = m + c % 128 * 128 ^ k % 18446744073709551616) :
    M < 18446744073709551616 ∧ (k + 1 ≤ 9 → M = says (t.take (k + 1))) := by
  have h0 := hm hk
  have h1 := says_lt t k (by omega)
  have h2 := says_take t k hin
  have h3 := says_lt t (k + 1) (by omega)
  rw [← h0] at h1 h2
  rw [← hc] at h2
  by_cases h9 : k = 9
  · subst h9
    have e : (128 : Nat) ^ 9 = 9223372036854775808 := by decide +kernel
    rw [e] at h1 hM
    exact ⟨by omega, fun h => by omega⟩
  · have h4 := Nat.pow_le_pow_right (show 0 < 128 by omega) (show k + 1 ≤ 9 by omega)
    have e : (128 : Nat) ^ 9 = 9223372036854775808 := by decide +kernel
    rw [e] at h4
    have h5 : c % 128 * 128 ^ k % 18446744073709551616 = c % 128 * 128 ^ k := Nat.mod_eq_of_lt (by omega)
    rw [h5] at hM
    exact ⟨by omega, fun _ => by omega⟩
theorem Oct.below_drewN2 (w : World) (a b : Nat) : Below w.heap.size w ((w.drewN a).drewN b) := below_drewN (below_drewN (Below.refl _ _) _) _
theorem Oct.run_strN' {w : World} {ao : Option Addr} {cap n : Nat} {bs : List UInt8} (h : Row w ao cap bs) (hn : bs.length = n) (q : Nat) :
    (convert 22 9 (.slice ao n cap)).run Try.prog (w.drewN q) = .ok (.string ⟨bs.toArray⟩) (w.drewN q) := by
  subst hn
  exact run_str (h.drewN q)

set_option maxRecDepth 100000 in
set_option maxHeartbeats 4000000 in
theorem next_any (w : World) {L : Nat} (Q : Nat) (ao : Option Addr) (cap : Nat) (s : St) (hr : Rf L w Q ao cap s) :
    Calls Try.prog 88 #[ptr Q] w fun e w' => e = .returned (.tuple #[.int .u64 s.next.1, .int .i64 s.next.2]) ∧ Below w.heap.size w w' := by
  obtain ⟨c0, c1, c2, c3⟩ := four_cells' hr.box
  have hsm := hr.small
  have hat := hr.at_
  obtain ⟨t, ht⟩ : ∃ t, t = s.bs.drop s.p := ⟨_, rfl⟩
  have hlen : t.length = s.bs.length - s.p := by rw [ht, List.length_drop]
  have HT := Lib.hid ht
  have HR := Lib.hid hr
  obtain ⟨x, hx⟩ : ∃ x, x = s.next := ⟨_, rfl⟩
  rw [← hx]
  have HX := Lib.hid hx
  clear ht hr hx c2 c3
  unfold ptr
  go_enter Try.func88, Try.ntmps88
  go_wp2
  go_loopw [4, 5] (fun n i wr => NextRel w t n i wr) (fun _ i _ => 10 - (intOf i).toNat)
  case atStart => exact ⟨0, 0, 0, rfl, rfl, rfl, Nat.zero_le _, by omega, by omega, fun _ => rfl, fun j h hj => by omega⟩
  case round =>
    obtain ⟨k, m, q, rfl, rfl, rfl, hk, hk10, hmb, hm, hgo⟩ := hrel
    have HM := Lib.hid hm
    have HGO := Lib.hid hgo
    clear hm hgo
    by_cases h10 : k < 10
    case neg =>
      have d1 : decide ((k : Int) < 10) = false := by simp; omega
      have HE : Hid (x = (0, -1)) := Lib.hid (by rw [HX.out]; exact next_no (by rw [← HT.out]; exact ends_never (k := k) (by omega) HGO.out))
      go_wp2
      go_quiet (fail)
      go_wp2
      go_ret2
      exact ⟨ret_next HE.out rfl rfl, below_drewN2 _ _ _⟩
    case pos =>
      have d1 : decide ((k : Int) < 10) = true := by simp; omega
      by_cases hin : k < t.length
      case neg =>
        have d2 : decide ((s.p : Int) + k < s.bs.length) = false := by simp; omega
        have HE : Hid (x = (0, -1)) := Lib.hid (by rw [HX.out]; exact next_no (by rw [← HT.out]; exact ends_never (k := k) (by omega) HGO.out))
        go_wp2
        go_quiet (fail)
        go_wp2
        go_ret2
        exact ⟨ret_next HE.out rfl rfl, below_drewN2 _ _ _⟩
      case pos =>
        have d2 : decide ((s.p : Int) + k < s.bs.length) = true := by simp; omega
        obtain ⟨b, off, rfl, hcell⟩ := HR.out.row.place (by omega)
        have hc := hcell (s.p + k) (by omega)
        obtain ⟨c, hcc⟩ : ∃ c : Nat, c = (t[k]).toNat := ⟨_, rfl⟩
        have hbt : s.bs[s.p + k]'(by omega) = t[k] := by simp [HT.out]
        rw [hbt, ← hcc, show off + (s.p + k) = off + (s.p + k) from rfl] at hc
        have hc256 : c < 256 := by rw [hcc]; exact UInt8.toNat_lt _
        have HC := Lib.hid hcc
        clear hcell hcc hbt
        obtain ⟨M, hM⟩ : ∃ M, M = m + c % 128 * 128 ^ k % 18446744073709551616 := ⟨_, rfl⟩
        obtain ⟨hMb, hMs⟩ := next_step hin (by omega) HM.out HC.out hM
        have hor : bits .or .u64 (m : Int) (IntKind.u64.wrap ((c : Int) % 128 * 2 ^ (7 * k))) = (M : Int) := by
          rw [hM]
          have h := orRem (c := c) (m := m) (k := k) (by rw [HM.out (by omega)]; exact says_lt t k hk) (by omega)
          rw [← h, Int.natCast_emod]
          rfl
        have HMB := Lib.hid hMb
        have HMS := Lib.hid hMs
        have HMD := Lib.hid hM
        clear hMs hM
        by_cases hlo : c < 128
        case neg =>
          go_wp2
          go_quiet (fail)
          obtain ⟨n1, rfl⟩ : ∃ n, n = nq := ⟨_, rfl⟩
          go_wp2
          go_quiet (fail)
          obtain ⟨n2, rfl⟩ : ∃ n, n = nq := ⟨_, rfl⟩
          go_wp2_with fail
          go_roundw
          case rel =>
            refine ⟨k + 1, M, q + n1 + n2, by go_num, rfl, rfl, by omega, by omega, HMB.out, HMS.out, fun j h hj => ?_⟩
            by_cases hjk : j = k
            · subst hjk
              rw [← HC.out]
              omega
            · exact HGO.out j h (by omega)
          case measure => simp [intOf]; omega
        case pos =>
          obtain ⟨X, hX⟩ : ∃ X, X = enc M := ⟨_, rfl⟩
          have hnum := fun W => refNumber_any W M hMb
          rw [← hX] at hnum
          obtain ⟨A2, Y, C2, hY, hrow2, hsl⟩ : ∃ A2 Y C2, Y = t.take (k + 1) ∧ Row w A2 C2 Y ∧ ∀ wx, (Instr.slice 22 (.slice (some ⟨b, off, none⟩) s.bs.length cap) (some (.int .i64 (s.p : Int))) (some (.int .i64 ((s.p : Int) + (k : Int) + 1))) none).run Try.prog wx = .ok (.slice A2 Y.length C2) wx := by
            refine ⟨cutAt (some ⟨b, off, none⟩) cap s.p, _, cap - s.p, rfl, by rw [HT.out]; exact (HR.out.row.cut s.p hat).take (k + 1), fun wx => ?_⟩
            have e := run_cut2 (some ⟨b, off, none⟩) s.bs.length cap s.p (s.p + k + 1) (by omega) (by have := HR.out.row.len; omega) wx
            rw [show ((s.p + k + 1 : Nat) : Int) = (s.p : Int) + (k : Int) + 1 by omega] at e
            rw [e]
            congr 2
            rw [List.length_take]
            omega
          have hlY : Y.length ≤ 1000000 := by rw [hY, List.length_take]; omega
          have HX2 := Lib.hid hX
          have HY := Lib.hid hY
          have HN := Lib.hid hnum
          have HROW := Lib.hid hrow2
          clear hX hY hnum hrow2 hMb
          go_wp2
          go_quiet (fail)
          obtain ⟨n1, rfl⟩ : ∃ n, n = nq := ⟨_, rfl⟩
          go_wp2
          go_quiet (fail)
          obtain ⟨n2, rfl⟩ : ∃ n, n = nq := ⟨_, rfl⟩
          go_wp2_with fail
          refine (HN.out _).mono ?_
          rintro e w1 ⟨x1, rfl, own1, b1⟩
          obtain ⟨ao1, cap1, hx1⟩ := own_shape own1
          subst hx1
          have b1' : Below w.heap.size w w1 := (below_drewN (Below.refl w.heap.size w) (q + n1 + n2)).trans b1
          have HB1 := Lib.hid b1'
          have hcv1 := fun qq => run_strN' (Row.ofOwn own1) rfl qq
          have hcv2 := fun qq => run_strN' (HROW.out.grown (Below.grownBy b1' none)) rfl qq
          obtain ⟨d0, d1', _, _⟩ := four_cells' (HR.out.keptAll b1').box
          clear own1 b1 b1' HN
          by_cases hXY : X = Y
          case pos =>
            have hab : (X == Y) = true := by simp [hXY]
            have HE : Hid (x = (M, ((s.p + (k + 1) : Nat) : Int))) := Lib.hid (by
              rw [HX.out]
              exact next_yes (by rw [← HT.out]; exact ends_yes HMB.out (by rw [← HX2.out, ← HY.out]; exact hXY) hin) (by omega))
            clear hXY
            go_wp2
            go_quiet (fail)
            obtain ⟨n3, rfl⟩ : ∃ n, n = nq := ⟨_, rfl⟩
            go_wp2
            go_quiet (fail)
            go_wp2
            go_ret2
            exact ⟨ret_next HE.out rfl (by omega), below_drewN (below_drewN HB1.out _) _⟩
          case neg =>
            have hab : (X == Y) = false := by simp [hXY]
            have HE : Hid (x = (0, -1)) := Lib.hid (by
              rw [HX.out]
              exact next_no (by rw [← HT.out]; exact ends_no (m := M) hin (by omega) HGO.out (by rw [← HC.out]; exact hlo) (by rw [HMD.out, HM.out (by omega), HC.out]) (by rw [← HX2.out, ← HY.out]; exact hXY)))
            clear hXY
            go_wp2
            go_quiet (fail)
            go_wp2
            go_ret2
            exact ⟨ret_next HE.out rfl rfl, below_drewN HB1.out _⟩
end Go.Proofs.Ytfechgahafbphaa
