/-
  battenlaw01.reads: are items read, and nothing is bad?
-/
import Derived.Test.YtjnafoiijcdpfaaOctItems
namespace Go.Proofs.Ytjnafoiijcdpfaa
open Go.RowKit Oct

/-- What reads answers, and what it makes of the reader. -/
def Oct.ReadsPost (B : Nat) (w : World) (R : Nat) (v : Value) (x : Bool × St) (e : Ending) (w' : World) : Prop := e = .returned (.bool x.1) ∧ Rdr B w' R v x.2 ∧ w.grownBy w' (some R)
def Oct.ReadsRel (B : Nat) (w : World) (R : Nat) (v : Value) (l : List Itm) (x : Bool × St) (i : Value) (wr : World) : Prop :=
  ∃ (k : Nat) (s : St), i = .int .i64 k ∧ k ≤ l.length ∧ Rdr B wr R v s ∧ w.grownBy wr (some R) ∧ x = readsSt (l.drop k) s

theorem Oct.str_eq {x : List UInt8} {s : ByteArray} (h : x = s.data.toList) : (x == s.toList) = true := by rw [ByteArray.toList_eq, h]; simp
theorem Oct.str_ne {x : List UInt8} {s : ByteArray} (h : x ≠ s.data.toList) : (x == s.toList) = false := by rw [ByteArray.toList_eq]; simp [h]

theorem Oct.step_named {l : List Itm} {k : Nat} (hk : k < l.length) {s s2 : St} {x : List UInt8} (hn : (l[k]).named = true) (hx : s.name = (x, s2)) :
    readsSt (l.drop k) s = if x ≠ (l[k]).s.data.toList then (false, s2) else if s2.err ≠ 0 then (false, s2) else readsSt (l.drop (k + 1)) s2 := by
  rw [List.drop_eq_getElem_cons hk, readsSt, hn, if_pos rfl, hx]
theorem Oct.step_plain {l : List Itm} {k : Nat} (hk : k < l.length) {s s2 : St} {x : Nat} (hn : (l[k]).named = false) (hx : s.number (l[k]).n = (x, s2)) :
    readsSt (l.drop k) s = if x ≠ (l[k]).n then (false, s2) else if s2.err ≠ 0 then (false, s2) else readsSt (l.drop (k + 1)) s2 := by
  rw [List.drop_eq_getElem_cons hk, readsSt, hn, if_neg (by simp), hx]

theorem Oct.reads_end {B : Nat} {w w' : World} {R : Nat} {v : Value} {X : Bool × St} {b : Bool} {s2 : St} (hX : X = (b, s2)) (hr : Rdr B w' R v s2) (hg : w.grownBy w' (some R)) : ReadsPost B w R v X (.returned (.bool b)) w' := by
  subst hX; exact ⟨rfl, hr, hg⟩

set_option maxRecDepth 100000 in
set_option maxHeartbeats 8000000 in
theorem reads_any (w0 : World) (B : Nat) (w : World) (R : Nat) (v : Value) (s : St) (lo : Option Addr) (lcap : Nat) (l : List Itm) (hl : ItemRow w0 lo lcap l) (h0 : Below w0.heap.size w0 w) (hB : w0.heap.size ≤ B) (hr : Rdr B w R v s) (hn : l.length ≤ 1000) :
    Calls Try.prog 31 #[ptr R, .slice lo l.length lcap] w (ReadsPost B w R v (readsSt l s)) := by
  obtain ⟨X, hX⟩ : ∃ X, X = readsSt l s := ⟨_, rfl⟩
  rw [← hX]
  have HX := Lib.hid hX
  have HL := Lib.hid hl
  have H0 := Lib.hid h0
  have HB := Lib.hid hB
  have HR := Lib.hid hr
  clear hX hl h0 hB hr
  unfold ptr
  go_enter Try.func31, Try.ntmps31
  go_wp2
  go_loopw [5] (fun i wr => ReadsRel B w R v l X i wr) (fun i _ => l.length - (intOf i).toNat)
  case atStart => exact ⟨0, s, rfl, Nat.zero_le _, HR.out, grownBy_self _ _, by rw [HX.out, List.drop_zero]⟩
  case round =>
    obtain ⟨k, s1, rfl, hk, hr1, hg1, hx1⟩ := hrel
    by_cases hlt : k < l.length
    · have hRB : B ≤ R := hr1.low
      have hBw : B ≤ w.heap.size := Nat.le_trans HR.out.low (Nat.le_of_lt HR.out.lt)
      obtain ⟨b, off, hlo, c0, c1, hn64⟩ := (HL.out.keep HB.out H0.out (grownBy_below hg1 hBw hRB)).place k hlt
      subst hlo
      have hbR : some b ≠ some R := by
        obtain ⟨b', off', e1, d0, _⟩ := HL.out.place k hlt
        simp only [Option.some.injEq, Addr.mk.injEq] at e1
        obtain ⟨rfl, _⟩ := e1
        have hb := World.block_lt_of_cell? w0 _ d0
        have := HB.out
        simp only [ne_eq, Option.some.injEq]
        simp only at hb
        omega
      have HbR := Lib.hid hbR
      have HR1 := Lib.hid hr1
      have HG1 := Lib.hid hg1
      have HX1 := Lib.hid hx1
      obtain ⟨nm, hnm⟩ : ∃ nm, nm = (l[k]).named := ⟨_, rfl⟩
      obtain ⟨S, hS⟩ : ∃ S, S = (l[k]).s := ⟨_, rfl⟩
      obtain ⟨N, hN⟩ : ∃ N, N = (l[k]).n := ⟨_, rfl⟩
      rw [← hS] at c1
      rw [← hN] at c0
      have hname : ∀ w, Calls Try.prog 15 #[.string S] w (Says w nm) := fun w => by
        have h := name_free w S
        rw [hnm, Itm.named, ← hS]
        exact h
      cases nm
      · obtain ⟨x, s2, hx⟩ : ∃ x s2, s1.number N = (x, s2) := ⟨_, _, rfl⟩
        have hstep := step_plain hlt hnm.symm (s := s1) (s2 := s2) (x := x) (by rw [← hN]; exact hx)
        rw [← hN] at hstep
        have hnum : ∀ w1, Rdr B w1 R v s1 → Calls Try.prog 19 #[.pointer (some ⟨R, 0, none⟩), .int .u64 N] w1 (Turned B w1 R v (.int .u64 x) s2) := fun w1 hr => by
          have h := number_any B w1 R v s1 hr N
          rw [hx] at h
          exact h
        have HM := Lib.hid hname
        have HN := Lib.hid hnum
        have HS := Lib.hid hstep
        clear hr1 hg1 hx1 hnm hS hN hname hnum hx hstep hbR hn64
        by_cases hxN : x = N
        · by_cases he : s2.err = 0
          · have hb1 : ((x : Int) == (N : Int)) = true := by simp [hxN]
            have hb2 : (s2.err == 0) = true := by simp [he]
            have HE := Lib.hid (And.intro hxN he)
            clear hxN he
            go_wp2_with (go_at_call 15; refine (HM.out _).mono ?_; rintro e w' ⟨rfl, rfl⟩)
            go_region_held3 (fun w' => w'.cell? ⟨b, off + k * 2, none⟩ = some (.int .u64 N)) (first | exact c0 | exact c0')
              (first | (go_at_call 19; refine (HN.out _ HR1.out.drew).mono ?_; rintro e w5 ⟨rfl, hr5, g5⟩; have c0' : w5.cell? ⟨b, off + k * 2, none⟩ = some (.int .u64 N) := g5.cell c0 HbR.out))
            have HR5 := Lib.hid hr5
            have HG5 := Lib.hid (grownBy_trans HG1.out (grownBy_drew g5))
            clear hr5 g5
            go_wp2_with (go_at_call 27; refine (bad_any _ _ R v _ HR5.out).mono ?_; rintro e w' ⟨rfl, q2, rfl⟩)
            go_roundw
            case rel =>
              refine ⟨k + 1, s2, by go_num, by omega, HR5.out.drewN q2, grownBy_drewN' HG5.out, ?_⟩
              rw [HX1.out, HS.out, if_neg (by simp [HE.out.1]), if_neg (by simp [HE.out.2])]
            case measure => simp [intOf]; omega
          · have hb1 : ((x : Int) == (N : Int)) = true := by simp [hxN]
            have hb2 : (s2.err == 0) = false := by simp [he]
            have HE := Lib.hid (And.intro hxN he)
            clear hxN he
            go_wp2_with (go_at_call 15; refine (HM.out _).mono ?_; rintro e w' ⟨rfl, rfl⟩)
            go_region_held3 (fun w' => w'.cell? ⟨b, off + k * 2, none⟩ = some (.int .u64 N)) (first | exact c0 | exact c0')
              (first | (go_at_call 19; refine (HN.out _ HR1.out.drew).mono ?_; rintro e w5 ⟨rfl, hr5, g5⟩; have c0' : w5.cell? ⟨b, off + k * 2, none⟩ = some (.int .u64 N) := g5.cell c0 HbR.out))
            have HR5 := Lib.hid hr5
            have HG5 := Lib.hid (grownBy_trans HG1.out (grownBy_drew g5))
            clear hr5 g5
            go_wp2_with (go_at_call 27; refine (bad_any _ _ R v _ HR5.out).mono ?_; rintro e w' ⟨rfl, q2, rfl⟩)
            go_ret
            exact reads_end (by rw [HX1.out, HS.out, if_neg (by simp [HE.out.1]), if_pos HE.out.2]) (HR5.out.drewN q2) (grownBy_drewN' HG5.out)
        · have hb1 : ((x : Int) == (N : Int)) = false := by simp; omega
          have HE := Lib.hid hxN
          clear hxN
          go_wp2_with (go_at_call 15; refine (HM.out _).mono ?_; rintro e w' ⟨rfl, rfl⟩)
          go_region_held3 (fun w' => w'.cell? ⟨b, off + k * 2, none⟩ = some (.int .u64 N)) (first | exact c0 | exact c0')
            (first | (go_at_call 19; refine (HN.out _ HR1.out.drew).mono ?_; rintro e w5 ⟨rfl, hr5, g5⟩; have c0' : w5.cell? ⟨b, off + k * 2, none⟩ = some (.int .u64 N) := g5.cell c0 HbR.out))
          have HR5 := Lib.hid hr5
          have HG5 := Lib.hid (grownBy_trans HG1.out (grownBy_drew g5))
          clear hr5 g5
          go_wp2
          go_ret
          exact reads_end (by rw [HX1.out, HS.out, if_pos HE.out]) HR5.out HG5.out
      · obtain ⟨x, s2, hx⟩ : ∃ x s2, s1.name = (x, s2) := ⟨_, _, rfl⟩
        have hstep := step_named hlt hnm.symm (s := s1) (s2 := s2) (x := x) hx
        rw [← hS] at hstep
        have hnum : ∀ w1, Rdr B w1 R v s1 → Calls Try.prog 23 #[.pointer (some ⟨R, 0, none⟩)] w1 (Turned B w1 R v (.string ⟨x.toArray⟩) s2) := fun w1 hr => by
          have h := rname_any B w1 R v s1 hr
          rw [hx] at h
          exact h
        have HM := Lib.hid hname
        have HN := Lib.hid hnum
        have HS := Lib.hid hstep
        clear hr1 hg1 hx1 hnm hS hN hname hnum hx hstep hbR c0 hn64
        by_cases hxN : x = S.data.toList
        · by_cases he : s2.err = 0
          · have hb1 := str_eq hxN
            have hb2 : (s2.err == 0) = true := by simp [he]
            have HE := Lib.hid (And.intro hxN he)
            clear hxN he
            go_wp2_with (go_at_call 15; refine (HM.out _).mono ?_; rintro e w' ⟨rfl, rfl⟩)
            go_region_held3 (fun w' => w'.cell? ⟨b, off + k * 2 + 1, none⟩ = some (.string S)) (first | exact c1 | exact c1')
              (first | (go_at_call 23; refine (HN.out _ HR1.out.drew).mono ?_; rintro e w5 ⟨rfl, hr5, g5⟩; have c1' : w5.cell? ⟨b, off + k * 2 + 1, none⟩ = some (.string S) := g5.cell c1 HbR.out))
            have HR5 := Lib.hid hr5
            have HG5 := Lib.hid (grownBy_trans HG1.out (grownBy_drew g5))
            clear hr5 g5
            go_wp2_with (go_at_call 27; refine (bad_any _ _ R v _ HR5.out).mono ?_; rintro e w' ⟨rfl, q2, rfl⟩)
            go_roundw
            case rel =>
              refine ⟨k + 1, s2, by go_num, by omega, HR5.out.drewN q2, grownBy_drewN' HG5.out, ?_⟩
              rw [HX1.out, HS.out, if_neg (by simp [HE.out.1]), if_neg (by simp [HE.out.2])]
            case measure => simp [intOf]; omega
          · have hb1 := str_eq hxN
            have hb2 : (s2.err == 0) = false := by simp [he]
            have HE := Lib.hid (And.intro hxN he)
            clear hxN he
            go_wp2_with (go_at_call 15; refine (HM.out _).mono ?_; rintro e w' ⟨rfl, rfl⟩)
            go_region_held3 (fun w' => w'.cell? ⟨b, off + k * 2 + 1, none⟩ = some (.string S)) (first | exact c1 | exact c1')
              (first | (go_at_call 23; refine (HN.out _ HR1.out.drew).mono ?_; rintro e w5 ⟨rfl, hr5, g5⟩; have c1' : w5.cell? ⟨b, off + k * 2 + 1, none⟩ = some (.string S) := g5.cell c1 HbR.out))
            have HR5 := Lib.hid hr5
            have HG5 := Lib.hid (grownBy_trans HG1.out (grownBy_drew g5))
            clear hr5 g5
            go_wp2_with (go_at_call 27; refine (bad_any _ _ R v _ HR5.out).mono ?_; rintro e w' ⟨rfl, q2, rfl⟩)
            go_ret
            exact reads_end (by rw [HX1.out, HS.out, if_neg (by simp [HE.out.1]), if_pos HE.out.2]) (HR5.out.drewN q2) (grownBy_drewN' HG5.out)
        · have hb1 := str_ne hxN
          have HE := Lib.hid hxN
          clear hxN
          go_wp2_with (go_at_call 15; refine (HM.out _).mono ?_; rintro e w' ⟨rfl, rfl⟩)
          go_region_held3 (fun w' => w'.cell? ⟨b, off + k * 2 + 1, none⟩ = some (.string S)) (first | exact c1 | exact c1')
            (first | (go_at_call 23; refine (HN.out _ HR1.out.drew).mono ?_; rintro e w5 ⟨rfl, hr5, g5⟩; have c1' : w5.cell? ⟨b, off + k * 2 + 1, none⟩ = some (.string S) := g5.cell c1 HbR.out))
          have HR5 := Lib.hid hr5
          have HG5 := Lib.hid (grownBy_trans HG1.out (grownBy_drew g5))
          clear hr5 g5
          go_wp2
          go_ret
          exact reads_end (by rw [HX1.out, HS.out, if_pos HE.out]) HR5.out HG5.out
    · obtain rfl : k = l.length := by omega
      have HR1 := Lib.hid hr1
      have HG1 := Lib.hid hg1
      have HX1 := Lib.hid hx1
      clear hr1 hg1 hx1 hlt
      go_wp2
      go_ret
      exact reads_end (by rw [HX1.out, List.drop_length, readsSt]) HR1.out HG1.out
end Go.Proofs.Ytjnafoiijcdpfaa
