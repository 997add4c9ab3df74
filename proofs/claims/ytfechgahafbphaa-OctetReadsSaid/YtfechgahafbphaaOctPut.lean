/-
  octet.Put and octet.PutName: what they return, and that they write nothing that was there.
-/
import Derived.Test.YtfechgahafbphaaOctPlain
import Derived.Test.YtfechgahafbphaaRows
import Derived.WalkKit
import Derived.WalkSpells
import Derived.Outline
import Derived.Lib.Hide
namespace Go.Proofs.Ytfechgahafbphaa
open Go.RowKit

theorem Try.info5 : (Try.prog.info? 5).map (fun i => (i.zero, i.size, i.bytes)) = some (some (.int .u8 0), 1, 1) := by kernel_rfl

namespace Oct
/-- Bytes as cells. -/
def cells (bs : List UInt8) : List Value := bs.map fun b => Value.int .u8 (b.toNat : Int)
theorem cells_length (bs : List UInt8) : (cells bs).length = bs.length := by simp [cells]
theorem cells_append (a b : List UInt8) : cells (a ++ b) = cells a ++ cells b := by simp [cells]
theorem cells_one (bs : List UInt8) : ∀ u ∈ cells bs, u.oneCell' = true := by
  intro u hu
  simp only [cells, List.mem_map] at hu
  obtain ⟨b, _, rfl⟩ := hu
  rfl

/-- The slice with this address, as long as bs, reads as bs. -/
structure Row (w : World) (ao : Option Addr) (cap : Nat) (bs : List UInt8) : Prop where
  len : bs.length ≤ cap
  fits : cap ≤ maxLen
  nil : ao = none → bs.length = 0 ∧ cap = 0
  cell : ∀ a, ao = some a → ∀ j u, (cells bs)[j]? = some u → w.cell? (a.add j) = some u

end Oct
open Oct

theorem Oct.Row.grown {w w' : World} {ao : Option Addr} {cap : Nat} {bs : List UInt8} (h : Row w ao cap bs) (g : w.grownBy w' none) : Row w' ao cap bs :=
  ⟨h.len, h.fits, h.nil, fun a ha j u hu => g.cell (h.cell a ha j u hu) (by simp)⟩

theorem Oct.or128 (m : Nat) : bits .or .u8 ((m : Int) % 256) 128 = ((UInt8.ofNat (m % 128 + 128)).toNat : Int) := by
  have h : ∀ x < 256, x ||| 128 = x % 128 + 128 := by decide +kernel
  have e := u8_or_nat (m % 256) 128 (by omega) (by omega)
  rw [toNat_ofNat (by omega)]
  rw [h _ (by omega), show m % 256 % 128 = m % 128 by omega, show ((m % 256 : Nat) : Int) = (m : Int) % 256 by omega] at e
  exact e

theorem Oct.one_new (w : World) (b : UInt8) (x : Int) (hx : x = (b.toNat : Int)) : ∀ (j : Nat) (u : Value), (cells [b])[j]? = some u → (w.alloc (.cells #[.int .u8 x] 5)).cell? ((⟨w.heap.size, 0, none⟩ : Addr).add j) = some u := by
  intro j u hu
  subst hx
  match j, hu with
  | 0, hu =>
    obtain rfl := Option.some.inj hu
    exact World.cell?_alloc_at _ _ _ 0 rfl

/-- v is a slice of the call's own that reads as out; nothing that was there has turned. -/
def Oct.Made (w : World) (out : List UInt8) (e : Ending) (w' : World) : Prop :=
  ∃ v, e = .returned v ∧ w'.ownsRow w.heap.size 5 1 v out.length (cells out) ∧ Below w.heap.size w w'
def Oct.PutRel (w : World) (goal : List UInt8) (nv out : Value) (wr : World) : Prop :=
  ∃ (m : Nat) (acc : List UInt8), nv = .int .u64 m ∧ acc ++ enc m = goal ∧ wr.ownsRow w.heap.size 5 1 out acc.length (cells acc) ∧ Below w.heap.size w wr

theorem Oct.put_step {w wr w1 : World} {G acc : List UInt8} {m : Nat} {u5 v' : Value} {o : Obj} {b : UInt8} (hb : Hid (b = UInt8.ofNat (m % 128 + 128))) (hm : 128 ≤ m) (HE : Hid (acc ++ enc m = G))
    (hown' : w1.ownsRow w.heap.size 5 1 v' (acc.length + 1) (cells acc ++ cells [b])) (hbel : Below w.heap.size w wr) (hgrow : (wr.alloc o).grownBy w1 u5.ownBlock) (hown : wr.ownsRow w.heap.size 5 1 u5 acc.length (cells acc)) :
    PutRel w G (.int .u64 ((m : Int) / 128)) v' w1 := by
  have hb := hb.out
  subst hb
  refine ⟨m / 128, acc ++ [UInt8.ofNat (m % 128 + 128)], by simp, ?_, by rw [cells_append]; simpa using hown', ?_⟩
  · rw [← HE.out, enc_big hm]; simp
  · exact (hbel.alloc hbel.size o).grown hgrow (by have := hbel.size; simp; omega) (fun k hk => (hown.lt k hk).1)

theorem Oct.put_end {w wr w1 : World} {G acc : List UInt8} {m : Nat} {u5 v' : Value} {o : Obj} (hm : m < 128) (HE : Hid (acc ++ enc m = G))
    (hown' : w1.ownsRow w.heap.size 5 1 v' (acc.length + 1) (cells acc ++ cells [UInt8.ofNat m])) (hbel : Below w.heap.size w wr) (hgrow : (wr.alloc o).grownBy w1 u5.ownBlock) (hown : wr.ownsRow w.heap.size 5 1 u5 acc.length (cells acc)) :
    Made w G (.returned v') w1 := by
  refine ⟨v', rfl, ?_, (hbel.alloc hbel.size o).grown hgrow (by have := hbel.size; simp; omega) (fun k hk => (hown.lt k hk).1)⟩
  rw [← HE.out, enc_small hm, cells_append]
  simpa using hown'

set_option maxRecDepth 100000 in
set_option maxHeartbeats 400000 in
theorem put_any (w : World) (ao : Option Addr) (cap : Nat) (bs : List UInt8) (N : Nat) (hN : (enc N).length ≤ 10) (hb : Row w ao cap bs) (hs : bs.length ≤ 1000000) :
    Calls Try.prog 83 #[.slice ao bs.length cap, .int .u64 N] w (Made w (bs ++ enc N)) := by
  obtain ⟨i0, hi, hz0, hz1, hz2⟩ := info_parts Try.info5
  have hl : (bs ++ enc N).length ≤ 1000010 := by simp only [List.length_append]; omega
  obtain ⟨G, hG⟩ : ∃ G, G = bs ++ enc N := ⟨_, rfl⟩
  have hG0 := Lib.hid hG
  rw [← hG] at hl ⊢
  clear hG
  go_enter Try.func83, Try.ntmps83
  go_wp2_with (first
    | (at_make; refine wpList_make_own _ rfl _ _ 22 rfl w.heap.size 5 i0 (.int .u8 0) 1 Try.underlying22 hi hz0 hz1 .i64 .i64 _ (bs.length + 10) rfl rfl (by omega) (by rw [hz2]; omega) (by unfold maxLen; omega) (Nat.le_refl _) ?_; intro w1 own1 g1)
    | (at_builtin; refine wpList_append_fits_any w1 rfl (.tmp 9) (.tmp 10) 22 rfl w.heap.size 5 i0 1 Try.underlying22 hi hz1 w.heap.size 0 (bs.length + 10) [] rfl own1 ao bs.length cap (cells bs) rfl (by simp [cells_length]) hb.nil (hb.grown g1).cell (cells_one bs) (by omega) ?_; intro w2 own2 g2))
  go_loopw [1, 5] (fun nv out wr => PutRel w G nv out wr) (fun nv _ _ => (intOf nv).toNat)
  case atStart => exact ⟨N, bs, rfl, hG0.out.symm, by simpa using own2, ((Below.refl _ _).grown g1 (Nat.le_refl _) (by simp)).grown g2 g1.size (by simp)⟩
  case round =>
    obtain ⟨m, acc, rfl, hE, hown, hbel⟩ := hrel
    have hal : acc.length ≤ 1000010 := by
      have h1 := congrArg List.length hE
      simp only [List.length_append] at h1
      omega
    have HE := Lib.hid hE
    clear hE own1 own2 g1 g2 hb
    by_cases hlt : 128 ≤ m
    · obtain ⟨b, hb⟩ : ∃ b, b = UInt8.ofNat (m % 128 + 128) := ⟨_, rfl⟩
      have HB := Lib.hid hb
      clear hb
      go_wp2_with (at_builtin; refine wpList_append_own _ rfl _ _ 22 rfl w.heap.size 5 i0 (.int .u8 0) 1 1 Try.underlying22 hi hz0 hz1 hz2 rfl (by decide) _ _ _ rfl (hown.alloc _) ⟨wr.heap.size, 0, none⟩ 1 1 (cells [b]) rfl rfl ?c1 ?c2 ?c3 ?c4 ?c5 ?_)
      case c1 => exact one_new _ _ _ (by rw [HB.out]; exact or128 m)
      case c2 => exact cells_one _
      case c3 => unfold maxLen; omega
      case c4 => omega
      case c5 => have := hbel.size; simp; omega
      intro v' w1 hown' hgrow _
      go_wp2
      go_roundw
      case rel => exact put_step HB hlt HE hown' hbel hgrow hown
      case measure => simp [intOf]; omega
    · go_wp2_with (at_builtin; refine wpList_append_own _ rfl _ _ 22 rfl w.heap.size 5 i0 (.int .u8 0) 1 1 Try.underlying22 hi hz0 hz1 hz2 rfl (by decide) _ _ _ rfl (hown.alloc _) ⟨wr.heap.size, 0, none⟩ 1 1 (cells [UInt8.ofNat m]) rfl rfl ?d1 ?d2 ?d3 ?d4 ?d5 ?_)
      case d1 => exact one_new _ _ _ (by rw [toNat_ofNat (by omega)])
      case d2 => exact cells_one _
      case d3 => unfold maxLen; omega
      case d4 => omega
      case d5 => have := hbel.size; simp; omega
      intro v' w1 hown' hgrow _
      go_wp2
      go_ret
      exact put_end (by omega) HE hown' hbel hgrow hown
end Go.Proofs.Ytfechgahafbphaa
