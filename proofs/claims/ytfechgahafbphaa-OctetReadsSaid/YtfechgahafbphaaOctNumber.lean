/-
  The methods Number, Byte and Name of a reader of package octet.
-/
import Derived.Test.YtfechgahafbphaaOctNum
namespace Go.Proofs.Ytfechgahafbphaa
open Go.RowKit Oct

/-- The address behind b[p:]. -/
def Oct.cutAt (ao : Option Addr) (cap p : Nat) : Option Addr := if cap = p then ao else ao.map (·.add p)

theorem Oct.add_add (a : Addr) (i j : Nat) : (a.add i).add j = a.add (i + j) := by
  by_cases hi : i = 0
  · subst hi; simp [Addr.add]
  by_cases hj : j = 0
  · subst hj; simp [Addr.add]
  · simp [Addr.add, hi, hj, Nat.add_assoc]

theorem Oct.Row.cut {w : World} {ao : Option Addr} {cap : Nat} {bs : List UInt8} (h : Row w ao cap bs) (p : Nat) (hp : p ≤ bs.length) : Row w (cutAt ao cap p) (cap - p) (bs.drop p) := by
  have hl := h.len
  have hf := h.fits
  refine ⟨by simp; omega, Nat.le_trans (Nat.sub_le _ _) hf, ?_, ?_⟩
  · intro hn
    unfold cutAt at hn
    split at hn
    · have := h.nil hn
      simp; omega
    · cases ao with
      | none => have := h.nil rfl; simp; omega
      | some a => simp at hn
  · intro a ha j u hu
    have hj : j < bs.length - p := by
      have := (List.getElem?_eq_some_iff.1 hu).1
      simpa [cells] using this
    have hne : ¬ cap = p := by omega
    unfold cutAt at ha
    rw [if_neg hne] at ha
    obtain ⟨a0, rfl, rfl⟩ := Option.map_eq_some_iff.1 ha
    have e : (cells bs)[p + j]? = some u := by rw [← hu]; simp [cells, List.getElem?_drop]
    have hc := h.cell a0 rfl (p + j) u e
    rw [add_add]
    exact hc

theorem Oct.run_cut (ao : Option Addr) (n cap p : Nat) (hp : p ≤ n) (wx : World) :
    (Instr.slice 22 (.slice ao n cap) (some (.int .i64 (p : Int))) none none).run Try.prog wx = .ok (.slice (cutAt ao cap p) (n - p) (cap - p)) wx := by
  have he : Try.prog.elem 22 = 5 := by simp [Program.elem, Try.underlying22]
  have hz : (Go.sizeOf 5).run Try.prog wx = .ok 1 wx := by kernel_rfl
  rw [run_slice_l wx 22 _ _ _ (by rw [he]; exact Try.underlying22) .i64 _ (by omega) (by omega), he, hz]
  simp [Result.andThen, sliced, cutAt]


theorem Oct.Row.ofOwn {w : World} {B : Nat} {ao : Option Addr} {cap : Nat} {bs : List UInt8} (h : w.ownsRow B 5 1 (.slice ao bs.length cap) bs.length (cells bs)) : Row w ao cap bs := by
  refine ⟨?_, ?_, ?_, ?_⟩
  · rcases h.2 with ⟨h1, h2⟩ | ⟨g, c, cur, h1, _, _, h2, _⟩
    · omega
    · simp only [Value.slice.injEq] at h1; omega
  · rcases h.2 with ⟨h1, h2⟩ | ⟨g, c, cur, h1, _, _, _, h2, _⟩
    · simp only [Value.slice.injEq] at h1; rw [h1.2.2]; exact Nat.zero_le _
    · simp only [Value.slice.injEq] at h1; rw [h1.2.2]; exact h2
  · intro hn
    rcases h.2 with ⟨h1, h2⟩ | ⟨g, c, cur, h1, _⟩
    · simp only [Value.slice.injEq] at h1; exact ⟨h2, h1.2.2⟩
    · simp only [Value.slice.injEq] at h1; simp [hn] at h1
  · intro a ha j u hu
    subst ha
    rcases h.2 with ⟨h1, h2⟩ | ⟨g, c, cur, h1, _⟩
    · simp at h1
    · simp only [Value.slice.injEq, Option.some.injEq] at h1
      obtain ⟨rfl, _, _⟩ := h1
      exact h.cells rfl j u hu

theorem Oct.Row.drew {w : World} {ao : Option Addr} {cap : Nat} {bs : List UInt8} (h : Row w ao cap bs) : Row w.drew ao cap bs := ⟨h.len, h.fits, h.nil, h.cell⟩
theorem Oct.Rdr.drew {B : Nat} {w : World} {R : Nat} {v : Value} {s : St} (h : Rdr B w R v s) : Rdr B w.drew R v s := ⟨h.at_, h.small, h.low, h.row⟩
theorem Oct.St.stop_p (s : St) (e : Int) : (s.stop e).p = s.p := by unfold St.stop St.fail; split <;> rfl
theorem Oct.St.stop_bs (s : St) (e : Int) : (s.stop e).bs = s.bs := by unfold St.stop St.fail; split <;> rfl
theorem Oct.numFn_p (s : St) (t : List UInt8) (m : Nat) : (numFn s t m).2.p = s.p := by
  unfold numFn
  split
  · exact St.stop_p _ _
  · split
    · exact St.stop_p _ _
    · rfl

theorem Oct.numFn_number (s : St) (m : Nat) (he : s.err = 0) (hs : s.p ≤ s.bs.length) :
    ∃ n size s1, numFn s (s.bs.drop s.p) m = ((n, size), s1) ∧ s1.p = s.p ∧ s1.bs = s.bs ∧ s.p + size ≤ s.bs.length ∧ s.number m = (n, s1.goTo (s.p + size)) := by
  by_cases h0 : (num (s.bs.drop s.p)).2 = 0
  · exact ⟨0, 0, s.stop 3, by rw [numFn, if_pos h0], St.stop_p _ _, St.stop_bs _ _, hs, by rw [St.number, if_neg (by simp [he]), if_pos h0]; simp [St.goTo, ← St.stop_p s 3]⟩
  · by_cases hm : m < (num (s.bs.drop s.p)).1
    · exact ⟨0, 0, s.stop 4, by rw [numFn, if_neg h0, if_pos hm], St.stop_p _ _, St.stop_bs _ _, hs, by rw [St.number, if_neg (by simp [he]), if_neg h0, if_pos hm]; simp [St.goTo, ← St.stop_p s 4]⟩
    · have h2 := (num_sound (bs := s.bs.drop s.p) (Prod.eta (num (s.bs.drop s.p))).symm h0).1
      rw [List.length_drop] at h2
      exact ⟨_, _, s, by rw [numFn, if_neg h0, if_neg hm], rfl, rfl, by omega, by rw [St.number, if_neg (by simp [he]), if_neg h0, if_neg hm]⟩

/-- A store into the reader's place. -/
theorem Oct.Rdr.setAt {B : Nat} {w : World} {R : Nat} {v : Value} {s : St} (h : Rdr B w R v s) (p : Nat) (hp : p ≤ s.bs.length) :
    Rdr B (w.setCell ⟨R, 1, none⟩ (.int .i64 p)) R v (s.goTo p) ∧ w.grownBy (w.setCell ⟨R, 1, none⟩ (.int .i64 p)) (some R) := by
  obtain ⟨h1, h2⟩ := h.row
  have hg : w.grownBy (w.setCell ⟨R, 1, none⟩ (.int .i64 p)) (some R) := by
    refine ⟨rfl, rfl, rfl, by simp [World.setCell], fun j _ hj => ?_⟩
    have hj' : j ≠ R := fun e => hj (by rw [e])
    rw [Below.heap_setCell _ _ _ _ hj']
  refine ⟨⟨hp, h.small, h.low, ?_, h2.kept hg ?_⟩, hg⟩
  · simp [World.setCell, Array.getElem?_modify, h1, St.goTo]
  · rcases h2.2 with ⟨rfl, _⟩ | ⟨g, cap, cur, rfl, _, hgg, _⟩
    · exact .inl rfl
    · refine .inr ?_
      simp only [Value.ownBlock, ne_eq, Option.some.injEq]
      rintro rfl
      rw [hgg] at h1
      simp at h1
theorem Oct.grownBy_trans {a b c : World} {row : Option Nat} (h : a.grownBy b row) (k : b.grownBy c row) : a.grownBy c row :=
  ⟨k.os.trans h.os, k.tape.trans h.tape, k.output.trans h.output, Nat.le_trans h.size k.size, fun i hi hn => (k.block i (Nat.lt_of_lt_of_le hi h.size) hn).trans (h.block i hi hn)⟩
theorem Oct.grownBy_drew {a b : World} {row : Option Nat} (h : a.drew.grownBy b row) : a.grownBy b row := ⟨h.os, h.tape, h.output, h.size, h.block⟩

set_option maxRecDepth 100000 in
set_option maxHeartbeats 2000000 in
theorem number_any (B : Nat) (w : World) (R : Nat) (v : Value) (s : St) (hr : Rdr B w R v s) (most : Nat) :
    Calls Try.prog 17 #[ptr R, .int .u64 most] w (Turned B w R v (.int .u64 (s.number most).1) (s.number most).2) := by
  obtain ⟨hh, hown⟩ := hr.row
  obtain ⟨ao, cap, hv⟩ := own_shape hown
  subst hv
  obtain ⟨c0, c1, c2, c3⟩ := four_cells hh
  by_cases he : s.err = 0
  · obtain ⟨n, size, s1, hX, h1, h2, h3, h4⟩ := numFn_number s most he hr.at_
    obtain ⟨t, A, C, ht, hrow, hsl⟩ : ∃ t A C, t = s.bs.drop s.p ∧ Row w A C t ∧ ∀ wx, (Instr.slice 22 (.slice ao s.bs.length cap) (some (.int .i64 (s.p : Int))) none none).run Try.prog wx = .ok (.slice A t.length C) wx := by
      refine ⟨_, cutAt ao cap s.p, cap - s.p, rfl, (Row.ofOwn hown).cut s.p hr.at_, fun wx => ?_⟩
      rw [run_cut ao s.bs.length cap s.p hr.at_]; simp
    have hl : t.length ≤ 1000000 := by have := hr.small; rw [ht]; simp; omega
    have hfn := fun w hr' hrow' => numberFn_any B w R (.slice ao s.bs.length cap) s hr' A C t hrow' hl most
    rw [ht] at hfn
    rw [hX] at hfn
    rw [← ht] at hfn
    rw [h4]
    have hsm : s.p + size ≤ 1000000 := Nat.le_trans h3 hr.small
    have HF := Lib.hid hfn
    have HW := Lib.hid hrow
    have HR := Lib.hid hr
    have HE := Lib.hid he
    have H1 := Lib.hid h1
    have H2 := Lib.hid h2
    have H3 := Lib.hid h3
    clear he hr hown hh ht hrow hfn hX h1 h2 h3 h4
    unfold ptr
    go_enter Try.func17, Try.ntmps17
    go_wp2_with (go_at_call 85; refine (good_yes B _ R _ s HR.out HE.out).mono ?_; rintro e w' ⟨rfl, rfl⟩)
    go_region_held3 (fun w' => w'.cell? ⟨R, 0, none⟩ = some (.slice ao s.bs.length cap) ∧ w'.cell? ⟨R, 1, none⟩ = some (.int .i64 s.p)) (first | exact ⟨c0, c1⟩ | exact ⟨c0', c1'⟩)
      (first | (go_at_call 86; refine (HF.out _ HR.out.drew HW.out.drew).mono ?_; rintro e w1 ⟨rfl, hr1, hg1⟩; obtain ⟨c0', c1', _, _⟩ := four_cells hr1.row.1; rw [H1.out] at c1'))
    have f1 := four_free hr1.row.1 1
    have G1 := Lib.hid hr1
    clear hr1
    go_wp2
    go_ret
    obtain ⟨k1, k2⟩ := G1.out.setAt (s.p + size) (by rw [H2.out]; exact H3.out)
    refine ⟨rfl, ?_, ?_⟩
    · simpa using k1
    · simpa using grownBy_trans (grownBy_drew hg1) k2
  · have e : s.number most = (0, s) := by rw [St.number, if_pos he]
    rw [e]
    have HR := Lib.hid hr
    have HE := Lib.hid he
    clear he hr hown hh
    unfold ptr
    go_enter Try.func17, Try.ntmps17
    go_wp2_with (go_at_call 85; refine (good_no B _ R _ s HR.out HE.out).mono ?_; rintro e w' ⟨rfl, rfl⟩)
    go_ret
    exact ⟨rfl, HR.out, grownBy_self _ _⟩

theorem Oct.grownBy_drewN {a b : World} {n : Nat} {row : Option Nat} (h : (a.drewN n).grownBy b row) : a.grownBy b row :=
  ⟨h.os, h.tape, h.output, h.size, h.block⟩

theorem Oct.grownBy_drewN' {a b : World} {n : Nat} {row : Option Nat} (h : a.grownBy b row) : a.grownBy (b.drewN n) row :=
  ⟨h.os, h.tape, h.output, h.size, h.block⟩

set_option maxRecDepth 100000 in
set_option maxHeartbeats 2000000 in
theorem byte_any (B : Nat) (w : World) (R : Nat) (v : Value) (s : St) (hr : Rdr B w R v s) :
    Calls Try.prog 19 #[ptr R] w (Turned B w R v (.int .u8 s.byte.1) s.byte.2) := by
  obtain ⟨hh, hown⟩ := hr.row
  obtain ⟨ao, cap, hv⟩ := own_shape hown
  subst hv
  by_cases he : s.err = 0
  · by_cases hp : s.p < s.bs.length
    · obtain ⟨b, off, rfl, hcell⟩ := (Row.ofOwn hown).place (by omega)
      have hc := hcell s.p hp
      obtain ⟨c, hcc⟩ : ∃ c : Nat, c = (s.bs[s.p]).toNat := ⟨_, rfl⟩
      rw [← hcc] at hc
      have e : s.byte = (c, s.goTo (s.p + 1)) := by rw [St.byte, if_neg (by simp [he]), dif_pos hp, hcc]
      rw [e]
      obtain ⟨c0, c1, c2, c3⟩ := four_cells hh
      have f1 := four_free hh 1
      have hsm := hr.small
      have hb : ((s.p : Int) == (s.bs.length : Int)) = false := beq_eq_false_iff_ne.2 (by omega)
      have HR := Lib.hid hr
      have HE := Lib.hid he
      clear he hr hown hh hcell hcc e
      unfold ptr
      go_enter Try.func19, Try.ntmps19
      go_wp2_with (go_at_call 85; refine (good_yes B _ R _ s HR.out HE.out).mono ?_; rintro e w' ⟨rfl, rfl⟩)
      go_quiet (fail)
      go_wp2
      go_quiet (fail)
      go_wp2
      go_ret
      obtain ⟨k1, k2⟩ := HR.out.setAt (s.p + 1) hp
      exact ⟨rfl, k1.drewN _, grownBy_drewN' k2⟩
    · have e : s.byte = (0, s.stop 3) := by rw [St.byte, if_neg (by simp [he]), dif_neg hp]
      rw [e]
      obtain ⟨c0, c1, c2, c3⟩ := four_cells hh
      have hsm := hr.small
      have ha := hr.at_
      have hb : ((s.p : Int) == (s.bs.length : Int)) = true := beq_iff_eq.2 (by omega)
      have HR := Lib.hid hr
      have HE := Lib.hid he
      clear he hr hown hh e
      unfold ptr
      go_enter Try.func19, Try.ntmps19
      go_wp2_with (go_at_call 85; refine (good_yes B _ R _ s HR.out HE.out).mono ?_; rintro e w' ⟨rfl, rfl⟩)
      go_quiet (fail)
      go_wp2_with (go_at_call 87; refine (stop_any B _ R _ s (HR.out.drewN _) 3).mono ?_; rintro e w' ⟨rfl, hr', hg'⟩)
      go_ret
      exact ⟨rfl, hr', grownBy_drewN hg'⟩
  · have e : s.byte = (0, s) := by rw [St.byte, if_pos he]
    rw [e]
    have HR := Lib.hid hr
    have HE := Lib.hid he
    clear he hr hown hh
    unfold ptr
    go_enter Try.func19, Try.ntmps19
    go_wp2_with (go_at_call 85; refine (good_no B _ R _ s HR.out HE.out).mono ?_; rintro e w' ⟨rfl, rfl⟩)
    go_ret
    exact ⟨rfl, HR.out, grownBy_self _ _⟩
end Go.Proofs.Ytfechgahafbphaa
