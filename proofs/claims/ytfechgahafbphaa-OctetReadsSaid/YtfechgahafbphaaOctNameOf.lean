/-
  The name that bytes begin with: octet.name; and the method Name.
-/
import Derived.Test.YtfechgahafbphaaOctNumber
import Derived.Laws.BytesArg
import Derived.Laws.IdiomStrings
namespace Go.Proofs.Ytfechgahafbphaa
open Go.RowKit Oct

/-- 'string(b)'. -/
theorem Oct.run_str {w : World} {ao : Option Addr} {cap : Nat} {bs : List UInt8} (h : Row w ao cap bs) :
    (convert 22 9 (.slice ao bs.length cap)).run Try.prog w = .ok (.string ⟨bs.toArray⟩) w := by
  cases ao with
  | none =>
    obtain rfl : bs = [] := List.eq_nil_of_length_eq_zero (h.nil rfl).1
    exact run_convert_bytes_nil w _ _ Try.underlying22 Try.underlying5 _ _ _ Try.underlying9
  | some a =>
    exact run_convert_bytes_back w _ _ _ a cap bs Try.underlying22 Try.underlying5 Try.underlying9 (fun j hj => h.cell a rfl j _ (by simp [cells, hj]))

theorem Oct.Row.take {w : World} {ao : Option Addr} {cap : Nat} {bs : List UInt8} (h : Row w ao cap bs) (n : Nat) : Row w ao cap (bs.take n) := by
  have := h.len
  refine ⟨by simp; omega, h.fits, fun e => ?_, fun a ha j u hu => h.cell a ha j u ?_⟩
  · have := h.nil e
    exact ⟨by rw [List.length_take]; omega, this.2⟩
  · rw [cells, List.map_take] at hu
    rw [List.getElem?_take] at hu
    split at hu
    · exact hu
    · cases hu

/-- 'b[p:q]'. -/
theorem Oct.run_cut2 (ao : Option Addr) (n cap p q : Nat) (hpq : p ≤ q) (hq : q ≤ cap) (wx : World) :
    (Instr.slice 22 (.slice ao n cap) (some (.int .i64 (p : Int))) (some (.int .i64 (q : Int))) none).run Try.prog wx = .ok (.slice (cutAt ao cap p) (q - p) (cap - p)) wx := by
  have he : Try.prog.elem 22 = 5 := by simp [Program.elem, Try.underlying22]
  have hz : (Go.sizeOf 5).run Try.prog wx = .ok 1 wx := by kernel_rfl
  rw [run_slice_lh wx 22 _ _ _ (by rw [he]; exact Try.underlying22) .i64 .i64 _ _ (by omega) (by omega) (by omega), he, hz]
  simp [Result.andThen, sliced, cutAt]

/-- octet.number where a number stands that is not too great: nothing turns. -/
theorem numberFn_ok (w : World) (R : Nat) (ao : Option Addr) (cap : Nat) (bs : List UInt8) (hb : Row w ao cap bs) (hl : bs.length ≤ 1000000) (most n size : Nat) (hx : num bs = (n, size)) (h0 : size ≠ 0) (hm : n ≤ most) :
    Calls Try.prog 86 #[.slice ao bs.length cap, .int .u64 most, stopOf R] w fun e w' => e = .returned (.tuple #[.int .u64 n, .int .i64 size]) ∧ w = w' := by
  have hbits := bits_any w ao cap bs hb hl
  rw [hx] at hbits
  have HB := Lib.hid hbits
  have hs0 : ((size : Int) == 0) = false := by simp [h0]
  clear hbits hx hb h0
  unfold stopOf
  go_enter Try.func86, Try.ntmps86
  go_wp2_with (first
    | (go_at_call 134; refine HB.out.mono ?_; rintro e w' ⟨rfl, rfl⟩))
  go_ret2
  exact ⟨rfl, rfl⟩

/-- What octet.name answers, and what it makes of the reader. -/
def Oct.nameFn (s : St) (t : List UInt8) : (List UInt8 × Nat) × St :=
  if (nameAt t).2.2 ≠ 0 then (([], 0), s.stop (nameAt t).2.2) else (((nameAt t).1, (nameAt t).2.1), s)

set_option maxRecDepth 100000 in
set_option maxHeartbeats 2000000 in
theorem nameFn_any (B : Nat) (w : World) (R : Nat) (v : Value) (s : St) (hr : Rdr B w R v s) (ao : Option Addr) (cap : Nat) (t : List UInt8) (hb : Row w ao cap t) (hl : t.length ≤ 1000000) :
    Calls Try.prog 89 #[.slice ao t.length cap, stopOf R] w
      (Turned B w R v (.tuple #[.string ⟨(nameFn s t).1.1.toArray⟩, .int .i64 (nameFn s t).1.2]) (nameFn s t).2) := by
  obtain ⟨n, from_, hx⟩ : ∃ n size, num t = (n, size) := ⟨_, _, rfl⟩
  by_cases hbad : from_ = 0 ∨ 32 < n
  · obtain ⟨e, h1, h2⟩ : ∃ e : Int, nameAt t = ([], 0, e) ∧ e ≠ 0 ∧ numFn s t 32 = ((0, 0), s.stop e) := by
      by_cases h0 : from_ = 0
      · exact ⟨3, by simp [nameAt, hx, h0], by decide, by simp [numFn, hx, h0]⟩
      · exact ⟨4, by rw [nameAt, hx]; simp [h0]; omega, by decide, by rw [numFn, hx]; simp [h0]; omega⟩
    have hn := numberFn_any B w R v s hr ao cap t hb hl 32
    rw [h2.2] at hn
    have hf : nameFn s t = (([], 0), s.stop e) := by rw [nameFn, h1]; simp [h2.1]
    rw [hf]
    have HN := Lib.hid hn
    clear hn hf h1 h2 hx hb hr hbad
    unfold stopOf at HN ⊢
    go_enter Try.func89, Try.ntmps89
    go_wp2_with (go_at_call 86; refine HN.out.mono ?_; rintro e' w' ⟨rfl, hr', hg'⟩)
    go_ret2
    exact ⟨rfl, hr', hg'⟩
  · have h0 : from_ ≠ 0 := by omega
    have hn32 : n ≤ 32 := by omega
    have hfl := (num_sound hx h0).1
    have hok := numberFn_ok w R ao cap t hb hl 32 n from_ hx h0 hn32
    have hz : ((from_ : Int) == 0) = false := by simp [h0]
    by_cases hlong : t.length < from_ + n
    · have hf : nameFn s t = (([], 0), s.stop 3) := by
        have : nameAt t = ([], 0, 3) := by rw [nameAt, hx]; simp only; rw [if_neg h0, if_neg (by omega), if_pos hlong]
        rw [nameFn, this]; simp
      rw [hf]
      have HN := Lib.hid hok
      have HR := Lib.hid hr
      clear hok hf hx hb hr hbad h0
      unfold stopOf at HN ⊢
      go_enter Try.func89, Try.ntmps89
      go_wp2_with (first
        | (go_at_call 86; refine HN.out.mono ?_; rintro e' w' ⟨rfl, rfl⟩)
        | (go_at_call 87; refine (stop_any B _ R v s HR.out 3).mono ?_; rintro e w' ⟨rfl, hr', hg'⟩))
      go_ret2
      exact ⟨rfl, hr', hg'⟩
    · obtain ⟨S, hS⟩ : ∃ S : ByteArray, S = ⟨((t.drop from_).take n).toArray⟩ := ⟨_, rfl⟩
      obtain ⟨A2, u, C2, hu, hrow, hsl⟩ : ∃ A2 u C2, u = (t.drop from_).take n ∧ Row w A2 C2 u ∧ ∀ wx, (Instr.slice 22 (.slice ao t.length cap) (some (.int .i64 (from_ : Int))) (some (.int .i64 ((from_ : Int) + (n : Int)))) none).run Try.prog wx = .ok (.slice A2 u.length C2) wx := by
        refine ⟨cutAt ao cap from_, _, cap - from_, rfl, (hb.cut from_ hfl).take n, fun wx => ?_⟩
        have e := run_cut2 ao t.length cap from_ (from_ + n) (by omega) (by have := hb.len; omega) wx
        rw [show ((from_ + n : Nat) : Int) = (from_ : Int) + (n : Int) by omega] at e
        rw [e]
        congr 2
        rw [List.length_take, List.length_drop]; omega
      have hcv := run_str hrow
      rw [hu, ← hS, ← hu] at hcv
      have hSs : S.size ≤ 1000000 := by rw [hS]; simp [ByteArray.size]; omega
      have hnm := fun w => name_any w S hSs
      have hSl : S.data.toList = (t.drop from_).take n := by rw [hS]
      rw [hSl] at hnm
      cases hin : isName ((t.drop from_).take n)
      · have hf : nameFn s t = (([], 0), s.stop 5) := by
          have : nameAt t = ([], 0, 5) := by rw [nameAt, hx]; simp only; rw [if_neg h0, if_neg (by omega), if_neg hlong, hin]; simp
          rw [nameFn, this]; simp
        rw [hf]
        rw [hin] at hnm
        have HM := Lib.hid hnm
        have HN := Lib.hid hok
        have HR := Lib.hid hr
        clear hok hf hx hb hr hbad h0 hu hrow hS hSl hin hnm
        unfold stopOf at HN ⊢
        go_enter Try.func89, Try.ntmps89
        go_wp2_with (first
          | (go_at_call 86; refine HN.out.mono ?_; rintro e' w' ⟨rfl, rfl⟩)
          | (go_at_call 84; refine (HM.out _).mono ?_; rintro e' w' ⟨rfl, rfl⟩)
          | (go_at_call 87; refine (stop_any B _ R v s HR.out 5).mono ?_; rintro e w' ⟨rfl, hr', hg'⟩))
        go_ret2
        exact ⟨rfl, hr', hg'⟩
      · have hf : nameFn s t = (((t.drop from_).take n, from_ + n), s) := by
          have : nameAt t = ((t.drop from_).take n, from_ + n, 0) := by rw [nameAt, hx]; simp only; rw [if_neg h0, if_neg (by omega), if_neg hlong, hin]; simp
          rw [nameFn, this]; simp
        rw [hf]
        simp only
        rw [← hS]
        rw [hin] at hnm
        have HM := Lib.hid hnm
        have HN := Lib.hid hok
        have HR := Lib.hid hr
        clear hok hf hx hb hr hbad h0 hu hrow hS hSl hin hnm
        unfold stopOf at HN ⊢
        go_enter Try.func89, Try.ntmps89
        go_wp2_with (first
          | (go_at_call 86; refine HN.out.mono ?_; rintro e' w' ⟨rfl, rfl⟩)
          | (go_at_call 84; refine (HM.out _).mono ?_; rintro e' w' ⟨rfl, rfl⟩))
        go_ret2
        exact ⟨by simp, HR.out, grownBy_self _ _⟩

theorem Oct.nameAt_le (t : List UInt8) : (nameAt t).2.1 ≤ t.length := by
  unfold nameAt
  split
  · simp
  · split
    · simp
    · split
      · simp
      · split
        · simp only; omega
        · simp
theorem Oct.goTo_stop (s : St) (e : Int) : (s.stop e).goTo s.p = s.stop e := by
  unfold St.stop St.fail St.goTo
  split <;> rfl
theorem Oct.nameFn_name (s : St) (he : s.err = 0) (hs : s.p ≤ s.bs.length) :
    ∃ x size s1, nameFn s (s.bs.drop s.p) = ((x, size), s1) ∧ s1.p = s.p ∧ s1.bs = s.bs ∧ s.p + size ≤ s.bs.length ∧ s.name = (x, s1.goTo (s.p + size)) := by
  by_cases h0 : (nameAt (s.bs.drop s.p)).2.2 ≠ 0
  · exact ⟨[], 0, s.stop (nameAt (s.bs.drop s.p)).2.2, by rw [nameFn, if_pos h0], St.stop_p _ _, St.stop_bs _ _, hs, by rw [St.name, if_neg (by simp [he]), if_pos h0, Nat.add_zero, goTo_stop]⟩
  · have h2 := nameAt_le (s.bs.drop s.p)
    rw [List.length_drop] at h2
    exact ⟨_, _, s, by rw [nameFn, if_neg h0], rfl, rfl, by omega, by rw [St.name, if_neg (by simp [he]), if_neg h0]⟩

set_option maxRecDepth 100000 in
set_option maxHeartbeats 2000000 in
theorem rname_any (B : Nat) (w : World) (R : Nat) (v : Value) (s : St) (hr : Rdr B w R v s) :
    Calls Try.prog 21 #[ptr R] w (Turned B w R v (.string ⟨s.name.1.toArray⟩) s.name.2) := by
  obtain ⟨hh, hown⟩ := hr.row
  obtain ⟨ao, cap, hv⟩ := own_shape hown
  subst hv
  obtain ⟨c0, c1, c2, c3⟩ := four_cells hh
  by_cases he : s.err = 0
  · obtain ⟨n, size, s1, hX, h1, h2, h3, h4⟩ := nameFn_name s he hr.at_
    obtain ⟨t, A, C, ht, hrow, hsl⟩ : ∃ t A C, t = s.bs.drop s.p ∧ Row w A C t ∧ ∀ wx, (Instr.slice 22 (.slice ao s.bs.length cap) (some (.int .i64 (s.p : Int))) none none).run Try.prog wx = .ok (.slice A t.length C) wx := by
      refine ⟨_, cutAt ao cap s.p, cap - s.p, rfl, (Row.ofOwn hown).cut s.p hr.at_, fun wx => ?_⟩
      rw [run_cut ao s.bs.length cap s.p hr.at_]; simp
    have hl : t.length ≤ 1000000 := by have := hr.small; rw [ht]; simp; omega
    have hfn := fun w hr' hrow' => nameFn_any B w R (.slice ao s.bs.length cap) s hr' A C t hrow' hl
    rw [ht] at hfn
    rw [hX] at hfn
    rw [← ht] at hfn
    rw [h4]
    have hsm : s.p + size ≤ 1000000 := Nat.le_trans h3 hr.small
    simp only at hfn ⊢
    obtain ⟨N, hN⟩ : ∃ N : ByteArray, N = ⟨n.toArray⟩ := ⟨_, rfl⟩
    rw [← hN] at hfn ⊢
    have HF := Lib.hid hfn
    have HW := Lib.hid hrow
    have HR := Lib.hid hr
    have HE := Lib.hid he
    have H1 := Lib.hid h1
    have H2 := Lib.hid h2
    have H3 := Lib.hid h3
    clear he hr hown hh ht hrow hfn hX h1 h2 h3 h4 hN
    unfold ptr
    go_enter Try.func21, Try.ntmps21
    go_wp2_with (go_at_call 85; refine (good_yes B _ R _ s HR.out HE.out).mono ?_; rintro e w' ⟨rfl, rfl⟩)
    go_region_held3 (fun w' => w'.cell? ⟨R, 0, none⟩ = some (.slice ao s.bs.length cap) ∧ w'.cell? ⟨R, 1, none⟩ = some (.int .i64 s.p)) (first | exact ⟨c0, c1⟩ | exact ⟨c0', c1'⟩)
      (first | (go_at_call 89; refine (HF.out _ HR.out.drew HW.out.drew).mono ?_; rintro e w1 ⟨rfl, hr1, hg1⟩; obtain ⟨c0', c1', _, _⟩ := four_cells hr1.row.1; rw [H1.out] at c1'))
    have f1 := four_free hr1.row.1 1
    have G1 := Lib.hid hr1
    clear hr1
    go_wp2
    go_ret
    obtain ⟨k1, k2⟩ := G1.out.setAt (s.p + size) (by rw [H2.out]; exact H3.out)
    refine ⟨rfl, ?_, ?_⟩
    · simpa using k1
    · simpa using grownBy_trans (grownBy_drew hg1) k2
  · have e : s.name = ([], s) := by rw [St.name, if_pos he]
    rw [e]
    have HR := Lib.hid hr
    have HE := Lib.hid he
    clear he hr hown hh
    unfold ptr
    go_enter Try.func21, Try.ntmps21
    go_wp2_with (go_at_call 85; refine (good_no B _ R _ s HR.out HE.out).mono ?_; rintro e w' ⟨rfl, rfl⟩)
    go_ret
    exact ⟨rfl, HR.out, grownBy_self _ _⟩
end Go.Proofs.Ytfechgahafbphaa
