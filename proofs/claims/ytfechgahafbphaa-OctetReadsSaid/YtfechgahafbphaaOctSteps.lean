/-
  The steps of a reader: what the walk is told of an argument that is a list of them; what each call makes of a reader, in one form.
-/
import Derived.Test.YtfechgahafbphaaOctApp
import Derived.Deep.Slices
import Derived.Deep.Fields
import Derived.ChangeSame
namespace Go.Proofs.Ytfechgahafbphaa
open Go.RowKit Oct

/-- A call of a reader. -/
structure Oct.Stp where
  d : Nat
  n : Nat
  k : Int
  e : Int

/-- The slice with this address, as long as l, reads as the steps l. -/
structure Oct.StepRow (w : World) (ao : Option Addr) (cap : Nat) (l : List Stp) : Prop where
  place : ∀ i (h : i < l.length), ∃ b off, ao = some ⟨b, off, none⟩ ∧ w.cell? ⟨b, off + i * 4, none⟩ = some (.int .u8 (l[i]).d) ∧ w.cell? ⟨b, off + i * 4 + 1, none⟩ = some (.int .u64 (l[i]).n) ∧
    w.cell? ⟨b, off + i * 4 + 2, none⟩ = some (.int .i64 (l[i]).k) ∧ w.cell? ⟨b, off + i * 4 + 3, none⟩ = some (.int .i64 (l[i]).e)

theorem Oct.StepRow.below {w w' : World} {ao : Option Addr} {cap : Nat} {l : List Stp} (h : StepRow w ao cap l) (b : Below w.heap.size w w') : StepRow w' ao cap l := by
  refine ⟨fun i hi => ?_⟩
  obtain ⟨bk, off, rfl, h1, h2, h3, h4⟩ := h.place i hi
  have hl : bk < w.heap.size := World.block_lt_of_cell? w _ h1
  exact ⟨bk, off, rfl, (b.cell hl).trans h1, (b.cell hl).trans h2, (b.cell hl).trans h3, (b.cell hl).trans h4⟩

/-- What a call made of a reader: it was bad, and all stays, and nothing is said; or it is bad now, and nothing is said, and its place stays; or it goes on. -/
def Oct.Went (nothing : Prop) (p p' : Nat) (bad bad' err err' : Int) (len : Nat) : Prop :=
  (err ≠ 0 → nothing ∧ p' = p ∧ bad' = bad ∧ err' = err) ∧ (err' ≠ 0 → nothing ∧ p' = p) ∧ p ≤ p' ∧ p' ≤ len

theorem Oct.stop_form (s : St) (e : Int) (he : s.err = 0) (h0 : e ≠ 0) : s.stop e = ⟨s.bs, s.p, s.p, e⟩ := by
  unfold St.stop St.fail
  rw [if_neg (by simp [he, h0])]

theorem Oct.number_went (s : St) (most : Nat) (hp : s.p ≤ s.bs.length) :
    ∃ x p' bad' err', s.number most = (x, ⟨s.bs, p', bad', err'⟩) ∧ Went (x = 0) s.p p' s.bad bad' s.err err' s.bs.length := by
  by_cases he : s.err = 0
  · by_cases h0 : (num (s.bs.drop s.p)).2 = 0
    · exact ⟨0, s.p, s.p, 3, by rw [St.number, if_neg (by simp [he]), if_pos h0, stop_form s 3 he (by decide)], fun h => absurd he h, fun _ => ⟨rfl, rfl⟩, Nat.le_refl _, hp⟩
    · by_cases hm : most < (num (s.bs.drop s.p)).1
      · exact ⟨0, s.p, s.p, 4, by rw [St.number, if_neg (by simp [he]), if_neg h0, if_pos hm, stop_form s 4 he (by decide)], fun h => absurd he h, fun _ => ⟨rfl, rfl⟩, Nat.le_refl _, hp⟩
      · have h2 := (num_sound (bs := s.bs.drop s.p) (Prod.eta (num (s.bs.drop s.p))).symm h0).1
        rw [List.length_drop] at h2
        exact ⟨_, _, s.bad, s.err, by rw [St.number, if_neg (by simp [he]), if_neg h0, if_neg hm]; rfl, fun h => absurd he h, fun h => absurd he h, by omega, by omega⟩
  · exact ⟨0, s.p, s.bad, s.err, by rw [St.number, if_pos he], fun _ => ⟨rfl, rfl, rfl, rfl⟩, fun _ => ⟨rfl, rfl⟩, Nat.le_refl _, hp⟩

theorem Oct.byte_went (s : St) (hp : s.p ≤ s.bs.length) :
    ∃ x p' bad' err', s.byte = (x, ⟨s.bs, p', bad', err'⟩) ∧ Went (x = 0) s.p p' s.bad bad' s.err err' s.bs.length := by
  by_cases he : s.err = 0
  · by_cases h : s.p < s.bs.length
    · exact ⟨_, _, s.bad, s.err, by rw [St.byte, if_neg (by simp [he]), dif_pos h]; rfl, fun h => absurd he h, fun h => absurd he h, by omega, by omega⟩
    · exact ⟨0, s.p, s.p, 3, by rw [St.byte, if_neg (by simp [he]), dif_neg h, stop_form s 3 he (by decide)], fun h => absurd he h, fun _ => ⟨rfl, rfl⟩, Nat.le_refl _, hp⟩
  · exact ⟨0, s.p, s.bad, s.err, by rw [St.byte, if_pos he], fun _ => ⟨rfl, rfl, rfl, rfl⟩, fun _ => ⟨rfl, rfl⟩, Nat.le_refl _, hp⟩

theorem Oct.name_went (s : St) (hp : s.p ≤ s.bs.length) :
    ∃ x p' bad' err', s.name = (x, ⟨s.bs, p', bad', err'⟩) ∧ Went (x = []) s.p p' s.bad bad' s.err err' s.bs.length := by
  by_cases he : s.err = 0
  · by_cases h0 : (nameAt (s.bs.drop s.p)).2.2 ≠ 0
    · exact ⟨[], s.p, s.p, _, by rw [St.name, if_neg (by simp [he]), if_pos h0, stop_form s _ he h0], fun h => absurd he h, fun _ => ⟨rfl, rfl⟩, Nat.le_refl _, hp⟩
    · have h2 := nameAt_le (s.bs.drop s.p)
      rw [List.length_drop] at h2
      exact ⟨_, _, s.bad, s.err, by rw [St.name, if_neg (by simp [he]), if_neg h0]; rfl, fun h => absurd he h, fun h => absurd he h, by omega, by omega⟩
  · exact ⟨[], s.p, s.bad, s.err, by rw [St.name, if_pos he], fun _ => ⟨rfl, rfl, rfl, rfl⟩, fun _ => ⟨rfl, rfl⟩, Nat.le_refl _, hp⟩

theorem Oct.fail_went (s : St) (k e : Int) :
    ∃ bad' err', s.fail k e = ⟨s.bs, s.p, bad', err'⟩ := by
  unfold St.fail
  split
  · exact ⟨s.bad, s.err, rfl⟩
  · exact ⟨_, _, rfl⟩

section
open Go.ChangeShapes Go.WideShapes
variable {H : Type} {enc : TypeId × Value → H} {w : World} {base : Nat} {spare : Nat → Bool} {held : Bool}
/-- One cell of a struct that reads as data. -/
theorem Oct.cell_of {a : Addr} {n : Nat} {cs : List Value} (hc : w.cells? base a n = some cs) (j : Nat) (hj : j < n) : ∃ v, cs[j]? = some v ∧ w.cell? (a.add j) = some v ∧ (cs.drop j).take 1 = [v] := by
  obtain ⟨_, hl, hat⟩ := World.cells?_some hc
  have hjl : j < cs.length := by omega
  refine ⟨cs[j], List.getElem?_eq_getElem hjl, by rw [hat j hj, List.getElem?_eq_getElem hjl], ?_⟩
  rw [List.drop_eq_getElem_cons hjl]; rfl

/-- A field that is an integer. -/
theorem Oct.int_field {a : Addr} {n k : Nat} {cs : List Value} {ys : List (DataW H × List MemPlace)} {T : TypeId} {K : IntKind} (hc : w.cells? base a n = some cs) (j : Nat) (hj : j < n) (hy : j < ys.length) (hT : Try.prog.underlying T = some (.int K)) (h1 : Try.prog.cellsOf T = 1)
    (h : DataW.trod enc Try.prog w base spare held k T ((cs.drop j).take (Try.prog.cellsOf T)) = ys[j]?) : ∃ z : Int, w.cell? (a.add j) = some (.int K z) ∧ (Lit.int K z).wf = true := by
  obtain ⟨v, _, h2, h3⟩ := cell_of hc j hj
  rw [h1, h3, List.getElem?_eq_getElem hy] at h
  obtain ⟨z, hz, _, hw⟩ := DataW.trod_int hT h
  simp only [List.cons.injEq, and_true] at hz
  subst hz
  exact ⟨z, h2, hw⟩
/-- The elements of a slice, one by one. -/
theorem Oct.list_of {A : Type} {P : Nat → A → Prop} : ∀ n, (∀ i, i < n → ∃ s, P i s) → ∃ l : List A, l.length = n ∧ ∀ i (h : i < l.length), P i l[i] := by
  intro n
  induction n with
  | zero => intro _; exact ⟨[], rfl, fun i h => by simp at h⟩
  | succ n ih =>
    intro h
    obtain ⟨l, hl, hp⟩ := ih fun i hi => h i (by omega)
    obtain ⟨s, hs⟩ := h n (by omega)
    refine ⟨l ++ [s], by simp [hl], fun i hi => ?_⟩
    by_cases e : i < l.length
    · rw [List.getElem_append_left e]; exact hp i e
    · have : i = n := by simp at hi; omega
      subst this
      rw [List.getElem_append_right (by omega)]
      simpa using hs
theorem Oct.nat_of {K : IntKind} {z : Int} (hK : K.min = 0) (h : (Lit.int K z).wf = true) : ∃ n : Nat, z = n := by
  simp only [Lit.wf, hK, Bool.and_eq_true, decide_eq_true_eq] at h
  exact ⟨z.toNat, by omega⟩
/-- Where an element's first cell is there its address is a plain one. -/
theorem Oct.plain_of {ad : Addr} {i : Nat} (h0 : ∀ u, w.cell? (ad.add i) = some u → (ad.add i).spot = none) (hu : ∃ u, w.cell? (ad.add i) = some u) : (ad.add i) = ⟨ad.block, ad.off + i, none⟩ := by
  obtain ⟨u, hu⟩ := hu
  have := h0 u hu
  obtain ⟨b, o, s⟩ := ad
  simp only [Addr.add] at this ⊢
  split at this
  · rename_i e; subst e; simp at this ⊢; exact this
  · rename_i e; simp [e]

theorem Oct.steps_of {fuel : Nat} {a : Option Addr} {len cap : Nat} {x : DataW H × List MemPlace} (h : DataW.trod enc Try.prog w base spare held fuel 23 [.slice a len cap] = some x) :
    ∃ l : List Stp, len = l.length ∧ StepRow w a cap l := by
  have hC : Try.prog.cellsOf 33 = 4 := by kernel_rfl
  rcases Go.Deep.open_slice Try.underlying23 h with ⟨h0, _⟩ | ⟨ad, n, c, m, f, D, Pl, hcs, _, hl, hm, hmm, _, hi⟩
  · simp only [List.cons.injEq, Value.slice.injEq, and_true] at h0
    obtain ⟨rfl, rfl, rfl⟩ := h0
    exact ⟨[], rfl, ⟨fun i hi => by simp at hi⟩⟩
  · simp only [List.cons.injEq, Value.slice.injEq, and_true] at hcs
    obtain ⟨rfl, rfl, rfl⟩ := hcs
    obtain ⟨l, hll, hp⟩ := list_of (A := Stp) (P := fun i s => w.cell? (ad.add (i * 4)) = some (.int .u8 s.d) ∧ w.cell? ((ad.add (i * 4)).add 1) = some (.int .u64 s.n) ∧ w.cell? ((ad.add (i * 4)).add 2) = some (.int .i64 s.k) ∧ w.cell? ((ad.add (i * 4)).add 3) = some (.int .i64 s.e)) len (by
      intro i hlt
      obtain ⟨cs, hc, ht⟩ := hi i (by rw [hmm]; split <;> omega)
      rw [hC] at hc
      obtain ⟨ys, n', _, _, _, hy, hf⟩ := DataW.trod_struct Try.underlying33 ht
      have hy4 : ys.length = 4 := hy
      obtain ⟨z0, c0, w0⟩ := int_field hc 0 (by omega) (by omega) Try.underlying5 (by kernel_rfl) (hf 0 _ rfl)
      obtain ⟨z1, c1, w1⟩ := int_field hc 1 (by omega) (by omega) Try.underlying31 (by kernel_rfl) (hf 1 _ rfl)
      obtain ⟨z2, c2, _⟩ := int_field hc 2 (by omega) (by omega) Try.underlying3 (by kernel_rfl) (hf 2 _ rfl)
      obtain ⟨z3, c3, _⟩ := int_field hc 3 (by omega) (by omega) Try.underlying3 (by kernel_rfl) (hf 3 _ rfl)
      obtain ⟨n0, rfl⟩ := nat_of rfl w0
      obtain ⟨n1, rfl⟩ := nat_of rfl w1
      rw [show ∀ A : Addr, A.add 0 = A from fun A => by simp [Addr.add]] at c0
      exact ⟨⟨n0, n1, z2, z3⟩, c0, c1, c2, c3⟩)
    refine ⟨l, hll.symm, ⟨fun i hi => ?_⟩⟩
    obtain ⟨h0, h1, h2, h3⟩ := hp i hi
    have e : (ad.add (i * 4)) = ⟨ad.block, ad.off + i * 4, none⟩ := plain_of (fun u hu => World.cell?_spot hu) ⟨_, h0⟩
    have ead : ad = ⟨ad.block, ad.off, none⟩ := by
      obtain ⟨h0', _⟩ := hp 0 (by omega)
      rw [show 0 * 4 = 0 from rfl, show ∀ A : Addr, A.add 0 = A from fun A => by simp [Addr.add]] at h0'
      have := World.cell?_spot h0'
      obtain ⟨b, o, s⟩ := ad
      simp at this; rw [this]
    rw [e] at h0 h1 h2 h3
    rw [Addr.add_lit] at h1 h2 h3
    exact ⟨ad.block, ad.off, congrArg some ead, h0, h1, h2, h3⟩
end
end Go.Proofs.Ytfechgahafbphaa
