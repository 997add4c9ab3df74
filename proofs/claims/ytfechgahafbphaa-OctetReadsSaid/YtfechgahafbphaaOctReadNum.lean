/-
  The document's own Number.
-/
import Derived.Test.YtfechgahafbphaaOctApp
namespace Go.Proofs.Ytfechgahafbphaa
open Go.RowKit Oct

theorem Oct.add128 (m : Nat) : 128 + (m : Int) % 128 = ((UInt8.ofNat (m % 128 + 128)).toNat : Int) := by
  rw [toNat_ofNat (by omega)]
  omega
theorem Oct.wrap_div {m : Nat} (h : m < 18446744073709551616) : IntKind.u64.wrap ((m : Int) / 128) = (m : Int) / 128 := by
  rw [IntKind.wrap_u64]; omega
def Oct.RefRel (w : World) (goal : List UInt8) (nv out : Value) (wr : World) : Prop :=
  ∃ (m : Nat) (acc : List UInt8), nv = .int .u64 m ∧ acc ++ enc m = goal ∧ wr.ownsRow w.heap.size 5 1 out acc.length (cells acc) ∧ Below w.heap.size w wr ∧ m < 18446744073709551616
theorem Oct.ref_step {w wr w1 : World} {G acc : List UInt8} {m : Nat} {u5 v' : Value} {o : Obj} {b : UInt8} (hb : Hid (b = UInt8.ofNat (m % 128 + 128))) (hm : 128 ≤ m) (HE : Hid (acc ++ enc m = G))
    (hown' : w1.ownsRow w.heap.size 5 1 v' (acc.length + 1) (cells acc ++ cells [b])) (hbel : Below w.heap.size w wr) (hgrow : (wr.alloc o).grownBy w1 u5.ownBlock) (hown : wr.ownsRow w.heap.size 5 1 u5 acc.length (cells acc)) (HM : m < 18446744073709551616) :
    RefRel w G (.int .u64 (IntKind.u64.wrap ((m : Int) / 128))) v' w1 := by
  rw [wrap_div HM]
  obtain ⟨m', acc', h1, h2, h3, h4⟩ := put_step hb hm HE hown' hbel hgrow hown
  refine ⟨m', acc', h1, h2, h3, h4, ?_⟩
  simp only [Value.int.injEq, true_and] at h1
  omega

set_option maxRecDepth 100000 in
set_option maxHeartbeats 400000 in
theorem refNumber_any (w : World) (N : Nat) (hM : N < 18446744073709551616) :
    Calls Try.prog 135 #[.int .u64 N] w (Made w (enc N)) := by
  obtain ⟨i0, hi, hz0, hz1, hz2⟩ := info_parts Try.info5
  obtain ⟨G, hG⟩ : ∃ G, G = enc N := ⟨_, rfl⟩
  have hG0 := Lib.hid hG
  have hl : G.length ≤ 10 := by rw [hG]; exact enc_length_le hM
  rw [← hG]
  have HM := Lib.hid hM
  clear hG hM
  go_enter Try.func135, Try.ntmps135
  go_wp2
  go_loopw [0, 3] (fun nv out wr => RefRel w G nv out wr) (fun nv _ _ => (intOf nv).toNat)
  case atStart => exact ⟨N, [], rfl, by rw [hG0.out]; rfl, World.ownsRow_nil _ _ _ _, Below.refl _ _, HM.out⟩
  case round =>
    obtain ⟨m, acc, rfl, hE, hown, hbel, hm⟩ := hrel
    have HMM := Lib.hid hm
    clear hm
    have hal : acc.length ≤ 10 := by
      have h1 := congrArg List.length hE
      simp only [List.length_append] at h1
      omega
    have HE := Lib.hid hE
    clear hE
    by_cases hlt : 128 ≤ m
    · obtain ⟨b, hb⟩ : ∃ b, b = UInt8.ofNat (m % 128 + 128) := ⟨_, rfl⟩
      have HB := Lib.hid hb
      clear hb
      have h127 : 127 < m := by omega
      go_wp2_with (at_builtin; refine wpList_append_own _ rfl _ _ 22 rfl w.heap.size 5 i0 (.int .u8 0) 1 1 Try.underlying22 hi hz0 hz1 hz2 rfl (by decide) _ _ _ rfl (hown.alloc _) ⟨wr.heap.size, 0, none⟩ 1 1 (cells [b]) rfl rfl ?c1 ?c2 ?c3 ?c4 ?c5 ?_)
      case c1 =>
        refine one_new _ _ _ ?_
        rw [HB.out]
        exact add128 m
      case c2 => exact cells_one _
      case c3 => unfold maxLen; omega
      case c4 => omega
      case c5 => have := hbel.size; simp; omega
      intro v' w1 hown' hgrow _
      go_wp2
      go_roundw
      case rel => exact ref_step HB hlt HE hown' hbel hgrow hown HMM.out
      case measure => rw [wrap_div HMM.out]; simp [intOf]; omega
    · have h127 : ¬ 127 < m := by omega
      go_wp2_with (at_builtin; refine wpList_append_own _ rfl _ _ 22 rfl w.heap.size 5 i0 (.int .u8 0) 1 1 Try.underlying22 hi hz0 hz1 hz2 rfl (by decide) _ _ _ rfl (hown.alloc _) ⟨wr.heap.size, 0, none⟩ 1 1 (cells [UInt8.ofNat m]) rfl rfl ?d1 ?d2 ?d3 ?d4 ?d5 ?_)
      case d1 => exact one_new _ _ _ (by rw [toNat_ofNat (by omega)])
      case d2 => exact cells_one _
      case d3 => unfold maxLen; omega
      case d4 => omega
      case d5 => have := hbel.size; simp; omega
      intro v' w1 hown' hgrow _
      go_wp2
      go_ret
      exact put_end (by omega) HE hown' hbel hgrow hown

end Go.Proofs.Ytfechgahafbphaa
