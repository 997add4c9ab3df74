/-
  Numbers and names, one behind the other: what is put, what is read; and the walk of reads.
-/
import Derived.Test.YtjnafoiijcdpfaaOctSteps
import Derived.Test.YtjnafoiijcdpfaaOctPrefix
namespace Go.Proofs.Ytjnafoiijcdpfaa
open Go.RowKit Oct

/-- A number, or, if it has one, a name. -/
structure Oct.Itm where
  n : Nat
  s : ByteArray

def Oct.Itm.named (it : Itm) : Bool := isName it.s.data.toList
def Oct.Itm.enc (it : Itm) : List UInt8 := if it.named then Oct.enc it.s.size ++ it.s.data.toList else Oct.enc it.n
def Oct.encAll (l : List Itm) : List UInt8 := l.flatMap Itm.enc

/-- Are items read, and nothing is bad? -/
def Oct.readsSt : List Itm → St → Bool × St
  | [], s => (true, s)
  | it :: r, s =>
    if it.named then
      if s.name.1 ≠ it.s.data.toList then (false, s.name.2) else if s.name.2.err ≠ 0 then (false, s.name.2) else readsSt r s.name.2
    else
      if (s.number it.n).1 ≠ it.n then (false, (s.number it.n).2) else if (s.number it.n).2.err ≠ 0 then (false, (s.number it.n).2) else readsSt r (s.number it.n).2

theorem Oct.isName_le {l : List UInt8} (h : isName l = true) : 0 < l.length ∧ l.length ≤ 32 := by
  unfold isName at h
  simp only [Bool.and_eq_true, decide_eq_true_eq] at h
  exact ⟨h.1.1, h.1.2⟩

/-- A name that was put is read. -/
theorem Oct.nameAt_enc {x : List UInt8} (hx : isName x = true) (t : List UInt8) : nameAt (enc x.length ++ x ++ t) = (x, (enc x.length).length + x.length, 0) := by
  obtain ⟨_, h2⟩ := isName_le hx
  have hn : num (enc x.length ++ x ++ t) = (x.length, (enc x.length).length) := by rw [List.append_assoc]; exact num_enc _ _ (by omega)
  have hp := enc_pos x.length
  unfold nameAt
  rw [hn]
  simp only
  rw [if_neg (by omega), if_neg (by omega), if_neg (by simp), List.append_assoc, List.drop_left, List.take_left, hx]
  simp

/-- What is the beginning of a number's bytes, and not all, is no number. -/
theorem Oct.num_cut {N k : Nat} (hN : N < 18446744073709551616) (hk : k < (enc N).length) : num ((enc N).take k) = (0, 0) := by
  cases h : num ((enc N).take k) with
  | mk a s =>
    by_cases hs : s = 0
    · subst hs
      rw [num_zero h]
    · obtain ⟨h1, h2, h3⟩ := num_sound h hs
      rw [List.length_take] at h1
      rw [List.take_take, Nat.min_eq_left (by omega)] at h2
      have hl : (enc a).length = s := by rw [h2, List.length_take]; omega
      have : a = N := by
        refine prefix_eq h3 hN ?_
        rw [hl, Nat.min_eq_left (by omega), h2, List.take_take, Nat.min_self]
      subst this
      omega

theorem Oct.nameAt_cut {x : List UInt8} (hx : isName x = true) {k : Nat} (hk : k < (enc x.length ++ x).length) : (nameAt ((enc x.length ++ x).take k)).2.2 ≠ 0 := by
  obtain ⟨_, h2⟩ := isName_le hx
  rw [List.length_append] at hk
  have hp := enc_pos x.length
  by_cases hs : k < (enc x.length).length
  · rw [List.take_append_of_le_length (by omega)]
    unfold nameAt
    rw [num_cut (by omega) hs]
    simp
  · rw [List.take_append]
    rw [List.take_of_length_le (by omega)]
    have hn : num (enc x.length ++ x.take (k - (enc x.length).length)) = (x.length, (enc x.length).length) := num_enc _ _ (by omega)
    unfold nameAt
    rw [hn]
    simp only
    rw [if_neg (by omega), if_neg (by omega), if_pos (by rw [List.length_append, List.length_take]; omega)]
    simp

theorem Oct.Itm.enc_named {it : Itm} (h : it.named = true) : it.enc = Oct.enc it.s.data.toList.length ++ it.s.data.toList := by
  unfold Itm.enc; rw [h]; simp
theorem Oct.Itm.enc_plain {it : Itm} (h : it.named = false) : it.enc = Oct.enc it.n := by
  unfold Itm.enc; rw [h]; simp

/-- What was put is read. -/
theorem Oct.reads_all : ∀ (l : List Itm), (∀ it ∈ l, it.n < 18446744073709551616) → ∀ (pre tail : List UInt8),
    readsSt l ⟨pre ++ encAll l ++ tail, pre.length, 0, 0⟩ = (true, ⟨pre ++ encAll l ++ tail, (pre ++ encAll l).length, 0, 0⟩) := by
  intro l
  induction l with
  | nil => intro _ pre tail; simp [readsSt, encAll]
  | cons it r ih =>
    intro hl pre tail
    have hn := hl it (by simp)
    have hr : ∀ x ∈ r, x.n < 18446744073709551616 := fun x hx => hl x (List.mem_cons_of_mem _ hx)
    have e : pre ++ encAll (it :: r) ++ tail = (pre ++ it.enc) ++ encAll r ++ tail := by simp [encAll]
    have key := ih hr (pre ++ it.enc) tail
    rw [e]
    have e2 : (pre ++ encAll (it :: r)).length = (pre ++ it.enc ++ encAll r).length := by simp [encAll]
    rw [e2]
    rw [readsSt]
    cases hnm : it.named
    · rw [if_neg (by simp)]
      have hnum : (⟨pre ++ it.enc ++ encAll r ++ tail, pre.length, 0, 0⟩ : St).number it.n = (it.n, ⟨pre ++ it.enc ++ encAll r ++ tail, (pre ++ it.enc).length, 0, 0⟩) := by
        have h1 : num ((pre ++ it.enc ++ encAll r ++ tail).drop pre.length) = (it.n, (Oct.enc it.n).length) := by
          rw [List.append_assoc, List.append_assoc, List.drop_left, Itm.enc_plain hnm]
          exact num_enc _ _ hn
        have hp := enc_pos it.n
        simp only [St.number, h1]
        rw [if_neg (by simp), if_neg (by omega), if_neg (by omega)]
        simp [St.goTo, Itm.enc_plain hnm]
      rw [hnum]
      simp only
      rw [if_neg (by simp), if_neg (by simp)]
      exact key
    · rw [if_pos rfl]
      have hname : (⟨pre ++ it.enc ++ encAll r ++ tail, pre.length, 0, 0⟩ : St).name = (it.s.data.toList, ⟨pre ++ it.enc ++ encAll r ++ tail, (pre ++ it.enc).length, 0, 0⟩) := by
        have h1 : nameAt ((pre ++ it.enc ++ encAll r ++ tail).drop pre.length) = (it.s.data.toList, (Oct.enc it.s.data.toList.length).length + it.s.data.toList.length, 0) := by
          rw [List.append_assoc, List.append_assoc, List.drop_left, Itm.enc_named hnm]
          exact nameAt_enc hnm _
        simp only [St.name, h1]
        rw [if_neg (by simp), if_neg (by simp)]
        simp [St.goTo, Itm.enc_named hnm]
      rw [hname]
      simp only
      rw [if_neg (by simp), if_neg (by simp)]
      exact key

/-- Cut anywhere they are not all read. -/
theorem Oct.reads_cut : ∀ (l : List Itm), (∀ it ∈ l, it.n < 18446744073709551616) → ∀ (pre : List UInt8) (k : Nat), k < (encAll l).length →
    (readsSt l ⟨pre ++ (encAll l).take k, pre.length, 0, 0⟩).1 = false := by
  intro l
  induction l with
  | nil => intro _ pre k hk; simp [encAll] at hk
  | cons it r ih =>
    intro hl pre k hk
    have hn := hl it (by simp)
    have hr : ∀ x ∈ r, x.n < 18446744073709551616 := fun x hx => hl x (List.mem_cons_of_mem _ hx)
    have e : encAll (it :: r) = it.enc ++ encAll r := by simp [encAll]
    rw [e] at hk ⊢
    rw [List.length_append] at hk
    by_cases hle : it.enc.length ≤ k
    · have e2 : (it.enc ++ encAll r).take k = it.enc ++ (encAll r).take (k - it.enc.length) := by
        rw [List.take_append, List.take_of_length_le hle]
      have key := ih hr (pre ++ it.enc) (k - it.enc.length) (by omega)
      rw [e2, ← List.append_assoc]
      rw [readsSt]
      cases hnm : it.named
      · rw [if_neg (by simp)]
        have hnum : (⟨pre ++ it.enc ++ (encAll r).take (k - it.enc.length), pre.length, 0, 0⟩ : St).number it.n = (it.n, ⟨pre ++ it.enc ++ (encAll r).take (k - it.enc.length), (pre ++ it.enc).length, 0, 0⟩) := by
          have h1 : num ((pre ++ it.enc ++ (encAll r).take (k - it.enc.length)).drop pre.length) = (it.n, (Oct.enc it.n).length) := by
            rw [List.append_assoc, List.drop_left, Itm.enc_plain hnm]
            exact num_enc _ _ hn
          have hp := enc_pos it.n
          simp only [St.number, h1]
          rw [if_neg (by simp), if_neg (by omega), if_neg (by omega)]
          simp [St.goTo, Itm.enc_plain hnm]
        rw [hnum]
        simp only
        rw [if_neg (by simp), if_neg (by simp)]
        exact key
      · rw [if_pos rfl]
        have hname : (⟨pre ++ it.enc ++ (encAll r).take (k - it.enc.length), pre.length, 0, 0⟩ : St).name = (it.s.data.toList, ⟨pre ++ it.enc ++ (encAll r).take (k - it.enc.length), (pre ++ it.enc).length, 0, 0⟩) := by
          have h1 : nameAt ((pre ++ it.enc ++ (encAll r).take (k - it.enc.length)).drop pre.length) = (it.s.data.toList, (Oct.enc it.s.data.toList.length).length + it.s.data.toList.length, 0) := by
            rw [List.append_assoc, List.drop_left, Itm.enc_named hnm]
            exact nameAt_enc hnm _
          simp only [St.name, h1]
          rw [if_neg (by simp), if_neg (by simp)]
          simp [St.goTo, Itm.enc_named hnm]
        rw [hname]
        simp only
        rw [if_neg (by simp), if_neg (by simp)]
        exact key
    · rw [List.take_append_of_le_length (by omega)]
      rw [readsSt]
      cases hnm : it.named
      · have h1 : num ((pre ++ it.enc.take k).drop pre.length) = (0, 0) := by
          rw [List.drop_left, Itm.enc_plain hnm]
          rw [Itm.enc_plain hnm] at hle
          exact num_cut hn (by omega)
        have h2 : ((⟨pre ++ it.enc.take k, pre.length, 0, 0⟩ : St).number it.n).2.err = 3 := by
          simp only [St.number, h1]
          rw [if_neg (by simp), if_pos trivial, stop_form _ _ rfl (by decide)]
        by_cases hx : ((⟨pre ++ it.enc.take k, pre.length, 0, 0⟩ : St).number it.n).1 ≠ it.n
        · rw [if_neg (by simp), if_pos hx]
        · rw [if_neg (by simp), if_neg hx, if_pos (by rw [h2]; decide)]
      · rw [if_pos rfl]
        have h1 : (nameAt ((pre ++ it.enc.take k).drop pre.length)).2.2 ≠ 0 := by
          rw [List.drop_left, Itm.enc_named hnm]
          rw [Itm.enc_named hnm] at hle
          exact nameAt_cut hnm (by omega)
        have h2 : ((⟨pre ++ it.enc.take k, pre.length, 0, 0⟩ : St).name).2.err ≠ 0 := by
          simp only [St.name]
          rw [if_neg (by simp), if_pos h1, stop_form _ _ rfl h1]
          exact h1
        by_cases hx : ((⟨pre ++ it.enc.take k, pre.length, 0, 0⟩ : St).name).1 ≠ it.s.data.toList
        · rw [if_pos hx]
        · rw [if_neg hx, if_pos h2]

set_option maxRecDepth 100000 in
set_option maxHeartbeats 1000000 in
theorem name_long (w : World) (s : ByteArray) (h : 32 < s.size) : Calls Try.prog 15 #[.string s] w (Says w (isName s.data.toList)) := by
  have HN := Lib.hid (isName_short (.inr h))
  have hb : ((s.size : Int) == 0) = false := beq_eq_false_iff_ne.2 (by omega)
  go_enter Try.func15, Try.ntmps15
  go_wp2
  go_ret
  exact ⟨ret_bool HN.out.symm, rfl⟩
theorem name_free (w : World) (s : ByteArray) : Calls Try.prog 15 #[.string s] w (Says w (isName s.data.toList)) := by
  by_cases h : 32 < s.size
  · exact name_long w s h
  · exact name_any w s (by omega)

/-- The slice with this address, as long as l, reads as the items l. -/
structure Oct.ItemRow (w : World) (ao : Option Addr) (cap : Nat) (l : List Itm) : Prop where
  place : ∀ i (h : i < l.length), ∃ b off, ao = some ⟨b, off, none⟩ ∧ w.cell? ⟨b, off + i * 2, none⟩ = some (.int .u64 (l[i]).n) ∧ w.cell? ⟨b, off + i * 2 + 1, none⟩ = some (.string (l[i]).s) ∧ (l[i]).n < 18446744073709551616
theorem Oct.ItemRow.old {w w' : World} {ao : Option Addr} {cap : Nat} {l : List Itm} (h : ItemRow w ao cap l) (b : Below w.heap.size w w') : ItemRow w' ao cap l := by
  refine ⟨fun i hi => ?_⟩
  obtain ⟨bk, off, rfl, h1, h2, h3⟩ := h.place i hi
  have hl : bk < w.heap.size := World.block_lt_of_cell? w _ h1
  exact ⟨bk, off, rfl, (b.cell hl).trans h1, (b.cell hl).trans h2, h3⟩
/-- Items lie below B: whatever is written from B on, they stay. -/
theorem Oct.ItemRow.keep {w0 w w' : World} {B : Nat} {ao : Option Addr} {cap : Nat} {l : List Itm} (h : ItemRow w0 ao cap l) (hB : w0.heap.size ≤ B) (b : Below w0.heap.size w0 w) (g : Below B w w') : ItemRow w' ao cap l :=
  h.old (b.trans (g.mono hB))

section
open Go.ChangeShapes Go.WideShapes
variable {H : Type} {enc : TypeId × Value → H} {w : World} {base : Nat} {spare : Nat → Bool} {held : Bool}
theorem Oct.str_field {a : Addr} {n k : Nat} {cs : List Value} {ys : List (DataW H × List MemPlace)} {T : TypeId} (hc : w.cells? base a n = some cs) (j : Nat) (hj : j < n) (hy : j < ys.length) (hT : Try.prog.underlying T = some .string) (h1 : Try.prog.cellsOf T = 1)
    (h : DataW.trod enc Try.prog w base spare held k T ((cs.drop j).take (Try.prog.cellsOf T)) = ys[j]?) : ∃ z : ByteArray, w.cell? (a.add j) = some (.string z) := by
  obtain ⟨v, _, h2, h3⟩ := cell_of hc j hj
  rw [h1, h3, List.getElem?_eq_getElem hy] at h
  obtain ⟨z, hz, _⟩ := DataW.trod_string hT h
  simp only [List.cons.injEq, and_true] at hz
  subst hz
  exact ⟨z, h2⟩

theorem Oct.items_of {fuel : Nat} {a : Option Addr} {len cap : Nat} {x : DataW H × List MemPlace} (h : DataW.trod enc Try.prog w base spare held fuel 49 [.slice a len cap] = some x) :
    ∃ l : List Itm, len = l.length ∧ ItemRow w a cap l := by
  have hC : Try.prog.cellsOf 52 = 2 := by kernel_rfl
  rcases Go.Deep.open_slice Try.underlying49 h with ⟨h0, _⟩ | ⟨ad, n, c, m, f, D, Pl, hcs, _, hl, hm, hmm, _, hi⟩
  · simp only [List.cons.injEq, Value.slice.injEq, and_true] at h0
    obtain ⟨rfl, rfl, rfl⟩ := h0
    exact ⟨[], rfl, ⟨fun i hi => by simp at hi⟩⟩
  · simp only [List.cons.injEq, Value.slice.injEq, and_true] at hcs
    obtain ⟨rfl, rfl, rfl⟩ := hcs
    obtain ⟨l, hll, hp⟩ := list_of (A := Itm) (P := fun i s => w.cell? (ad.add (i * 2)) = some (.int .u64 s.n) ∧ w.cell? ((ad.add (i * 2)).add 1) = some (.string s.s) ∧ s.n < 18446744073709551616) len (by
      intro i hlt
      obtain ⟨cs, hc, ht⟩ := hi i (by rw [hmm]; split <;> omega)
      rw [hC] at hc
      obtain ⟨ys, n', _, _, _, hy, hf⟩ := DataW.trod_struct Try.underlying52 ht
      have hy2 : ys.length = 2 := hy
      obtain ⟨z0, c0, w0⟩ := int_field hc 0 (by omega) (by omega) Try.underlying23 (by kernel_rfl) (hf 0 _ rfl)
      obtain ⟨z1, c1⟩ := str_field hc 1 (by omega) (by omega) Try.underlying9 (by kernel_rfl) (hf 1 _ rfl)
      obtain ⟨n0, rfl, hn0⟩ := u64_of w0
      rw [show ∀ A : Addr, A.add 0 = A from fun A => by simp [Addr.add]] at c0
      exact ⟨⟨n0, z1⟩, c0, c1, hn0⟩)
    refine ⟨l, hll.symm, ⟨fun i hi => ?_⟩⟩
    obtain ⟨h0, h1, h2⟩ := hp i hi
    have e : (ad.add (i * 2)) = ⟨ad.block, ad.off + i * 2, none⟩ := plain_of (fun u hu => World.cell?_spot hu) ⟨_, h0⟩
    have ead : ad = ⟨ad.block, ad.off, none⟩ := by
      obtain ⟨h0', _⟩ := hp 0 (by omega)
      rw [show 0 * 2 = 0 from rfl, show ∀ A : Addr, A.add 0 = A from fun A => by simp [Addr.add]] at h0'
      have := World.cell?_spot h0'
      obtain ⟨b, o, s⟩ := ad
      simp at this; rw [this]
    rw [e] at h0 h1
    rw [Addr.add_lit] at h1
    exact ⟨ad.block, ad.off, congrArg some ead, h0, h1, h2⟩
end
end Go.Proofs.Ytjnafoiijcdpfaa
