/-
  'append(x, b...)': x a slice of bytes of the call's own, b whatever slice that reads as bytes.
-/
import Derived.Test.YtfechgahafbphaaOctWorks
namespace Go.Proofs.Ytfechgahafbphaa
open Go.RowKit Oct

theorem Oct.wpList_append_row {w : World} {ops : Array Oper} {rest : List Oper} {o : Oper} {a : Act} {Q : Exit → Act → World → Prop} (hgd : o.guard = none) (s x : Operand)
    (ho : o.op = .call { callee := .builtin .append, args := #[s, x], argTypes := #[22, 22] })
    (B : Nat) (v : Value) (n : Nat) (xs : List UInt8) (hs : a.eval s = v) (hown : w.ownsRow B 5 1 v n (cells xs)) (ao : Option Addr) (m cap : Nat) (bs : List UInt8) (hx : a.eval x = .slice ao m cap) (hm : bs.length = m)
    (hrow : Row w ao cap bs) (hl : n + m ≤ 4000000) (hB : B ≤ w.heap.size)
    (h : ∀ v' w', w'.ownsRow B 5 1 v' (n + m) (cells (xs ++ bs)) → w.grownBy w' v.ownBlock → wpList Try.prog ops Q rest (a.put o.dst v') w') : wpList Try.prog ops Q (o :: rest) a w := by
  obtain ⟨i0, hi, hz0, hz1, hz2⟩ := info_parts Try.info5
  subst hm
  cases ao with
  | some ad =>
    refine wpList_append_own w hgd s x 22 ho B 5 i0 (.int .u8 0) 1 1 Try.underlying22 hi hz0 hz1 hz2 rfl (by decide) v n (cells xs) hs hown ad bs.length cap (cells bs) hx (by simp [cells_length]) (hrow.cell ad rfl) (cells_one bs) (by unfold maxLen; omega) (by omega) hB ?_
    intro v' w' h1 h2 _
    rw [← cells_append] at h1
    exact h v' w' h1 h2
  | none =>
    obtain ⟨h1, rfl⟩ := hrow.nil rfl
    obtain rfl : bs = [] := List.eq_nil_of_length_eq_zero h1
    refine wpList_append_own_none hgd s x 22 ho B 5 i0 1 Try.underlying22 hi v n (cells xs) hs hown hx ?_
    exact h v w (by simpa using hown) (grownBy_self _ _)

theorem Oct.Row.alloc {w : World} {ao : Option Addr} {cap : Nat} {bs : List UInt8} (h : Row w ao cap bs) (o : Obj) : Row (w.alloc o) ao cap bs := h.grown (World.grownBy_alloc w o none)
theorem Oct.Row.drewN {w : World} {ao : Option Addr} {cap : Nat} {bs : List UInt8} (h : Row w ao cap bs) (q : Nat) : Row (w.drewN q) ao cap bs := ⟨h.len, h.fits, h.nil, h.cell⟩
/-- An empty slice, '[]byte{}'. -/
theorem Oct.own_empty {w : World} {B : Nat} (hB : B ≤ w.heap.size) : (w.alloc (.cells #[] 5)).ownsRow B 5 1 (.slice (some ⟨w.heap.size, 0, none⟩) 0 0) 0 (cells []) :=
  World.ownsRow_made w #[] 0 hB (Nat.zero_le _) rfl
theorem newN_any (w : World) (ao : Option Addr) (cap n : Nat) (bs : List UInt8) (hb : Row w ao cap bs) (hn : bs.length = n) (hl : n ≤ 1000000) :
    Calls Try.prog 16 #[.slice ao n cap] w (NewPost w bs) := by
  subst hn; exact new_any w ao cap bs hb hl

/-- The method Number with the greatest limit, where a number's bytes stand. -/
theorem numberMax (B : Nat) (w : World) (R : Nat) (v : Value) (pre : List UInt8) (a : Nat) (tail : List UInt8) (ha : a < 18446744073709551616) (hr : Rdr B w R v ⟨pre ++ enc a ++ tail, pre.length, 0, 0⟩) :
    Calls Try.prog 17 #[ptr R, .int .u64 18446744073709551615] w (Turned B w R v (.int .u64 a) ⟨pre ++ enc a ++ tail, pre.length + (enc a).length, 0, 0⟩) := by
  have h := number_any B w R v _ hr 18446744073709551615
  have e : (⟨pre ++ enc a ++ tail, pre.length, 0, 0⟩ : St).number 18446744073709551615 = (a, ⟨pre ++ enc a ++ tail, pre.length + (enc a).length, 0, 0⟩) := by
    have hn : num ((pre ++ enc a ++ tail).drop pre.length) = (a, (enc a).length) := by
      rw [List.append_assoc, List.drop_left]; exact num_enc a tail ha
    have hp := enc_pos a
    simp only [St.number, hn]
    rw [if_neg (by simp), if_neg (by omega), if_neg (by omega)]
    rfl
  rw [e] at h
  exact h

theorem Oct.u64_of {a : Int} (h : (Lit.int .u64 a).wf = true) : ∃ n : Nat, a = n ∧ n < 18446744073709551616 := by
  simp [Lit.wf, IntKind.min, IntKind.max, IntKind.signed, IntKind.bits] at h
  exact ⟨a.toNat, by omega, by omega⟩

/-- An argument's bytes. -/
theorem Oct.row_of {w : World} {a : Option Addr} {len cap : Nat} {zs : List Int}
    (h : (a = none ∧ len = 0 ∧ cap = 0 ∧ zs = []) ∨ ∃ x, a = some x ∧ len ≤ cap ∧ cap ≤ maxLen ∧ zs.length = cap ∧ (∀ i, i < zs.length → w.cell? (x.add i) = some (.int .u8 (zs.getD i 0))) ∧ ∀ n ∈ zs, (Lit.int .u8 n).wf = true) :
    ∃ bs : List UInt8, len = bs.length ∧ Row w a cap bs := by
  rcases h with ⟨rfl, rfl, rfl, rfl⟩ | ⟨x, rfl, hl, hm, hz, hcell, hwf⟩
  · exact ⟨[], rfl, nilRow w⟩
  · refine ⟨(zs.take len).map fun z => UInt8.ofNat z.toNat, by simp; omega, by simp; omega, hm, by simp, fun a ha j u hu => ?_⟩
    cases ha
    have hj : j < len := by
      have := (List.getElem?_eq_some_iff.1 hu).1
      simp [cells] at this; omega
    rw [hcell j (by omega), ← hu]
    have hw := hwf (zs.getD j 0) (by rw [List.getD_eq_getElem?_getD, List.getElem?_eq_getElem (by omega)]; exact List.getElem_mem _)
    simp [Lit.wf, IntKind.min, IntKind.max, IntKind.signed, IntKind.bits] at hw
    simp only [cells, List.map_map, List.getElem?_map, List.getElem?_take_of_lt hj, List.getElem?_eq_getElem (show j < zs.length by omega), Option.map_some, Function.comp]
    rw [toNat_ofNat (by simp [List.getElem?_eq_getElem (show j < zs.length by omega)] at hw; omega)]
    simp [List.getElem?_eq_getElem (show j < zs.length by omega)] at hw ⊢
    omega
end Go.Proofs.Ytfechgahafbphaa
