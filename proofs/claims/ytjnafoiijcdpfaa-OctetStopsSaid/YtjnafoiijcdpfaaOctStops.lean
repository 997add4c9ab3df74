/-
  The walk of the statement OctetStops.
-/
import Derived.Test.YtjnafoiijcdpfaaOctSteps
namespace Go.Proofs.Ytjnafoiijcdpfaa
open Go.RowKit Oct

def Oct.StopsRel (w : World) (B R : Nat) (v : Value) (bs : List UInt8) (len : Nat) (i : Value) (wr : World) : Prop :=
  ∃ (k p : Nat) (bad err : Int), k ≤ len ∧ i = .int .i64 k ∧ Rdr B wr R v ⟨bs, p, bad, err⟩ ∧ Below w.heap.size w wr

/-- The three ways of a call f of a reader, which answers val x (or val of nothing). -/
def Oct.Ways {T : Type} (mk : T → Value) (f : FuncId) (args : Array Value) (B : Nat) (w : World) (R : Nat) (v : Value) (bs : List UInt8) (p : Nat) (bad err : Int) (none_ : Value) : Prop :=
  ((err == 0) = true ∧ err = 0 ∧ ∃ (x : T) (p' : Nat) (bad' : Int), p ≤ p' ∧ p' ≤ bs.length ∧ Calls Try.prog f args w (Turned B w R v (mk x) ⟨bs, p', bad', 0⟩)) ∨
  (err = 0 ∧ ∃ (bad' err' : Int), (err' != 0) = true ∧ Calls Try.prog f args w (Turned B w R v none_ ⟨bs, p, bad', err'⟩)) ∨
  ((err != 0) = true ∧ Calls Try.prog f args w (Turned B w R v none_ ⟨bs, p, bad, err⟩))

theorem Oct.ways_of {f : FuncId} {args : Array Value} {B : Nat} {w : World} {R : Nat} {v : Value} {bs : List UInt8} {p p' : Nat} {bad bad' err err' : Int} {none_ : Value} {T : Type} {mk : T → Value} {x : T} {nothing : Prop}
    (hn : nothing → mk x = none_) (hw : Went nothing p p' bad bad' err err' bs.length) (hc : Calls Try.prog f args w (Turned B w R v (mk x) ⟨bs, p', bad', err'⟩)) : Ways mk f args B w R v bs p bad err none_ := by
  obtain ⟨h1, h2, h3, h4⟩ := hw
  by_cases he : err = 0
  · by_cases he' : err' = 0
    · subst he'
      exact .inl ⟨by simp [he], he, x, p', bad', h3, h4, hc⟩
    · obtain ⟨k1, rfl⟩ := h2 he'
      rw [hn k1] at hc
      exact .inr (.inl ⟨he, bad', err', by simp [he'], hc⟩)
  · obtain ⟨k1, rfl, rfl, rfl⟩ := h1 he
    rw [hn k1] at hc
    exact .inr (.inr ⟨by simp [he], hc⟩)

theorem ways_number (B : Nat) (w : World) (R : Nat) (v : Value) (bs : List UInt8) (p : Nat) (bad err : Int) (hr : Rdr B w R v ⟨bs, p, bad, err⟩) (n : Nat) :
    Ways (fun y : Nat => .int .u64 y) 19 #[.pointer (some ⟨R, 0, none⟩), .int .u64 n] B w R v bs p bad err (.int .u64 0) := by
  obtain ⟨x, p', bad', err', hx, hw⟩ := number_went ⟨bs, p, bad, err⟩ n hr.at_
  have hc := number_any B w R v _ hr n
  rw [hx] at hc
  exact ways_of (mk := fun y : Nat => .int .u64 y) (fun e => by rw [e]; rfl) hw hc
theorem ways_byte (B : Nat) (w : World) (R : Nat) (v : Value) (bs : List UInt8) (p : Nat) (bad err : Int) (hr : Rdr B w R v ⟨bs, p, bad, err⟩) :
    Ways (fun y : Nat => .int .u8 y) 21 #[.pointer (some ⟨R, 0, none⟩)] B w R v bs p bad err (.int .u8 0) := by
  obtain ⟨x, p', bad', err', hx, hw⟩ := byte_went ⟨bs, p, bad, err⟩ hr.at_
  have hc := byte_any B w R v _ hr
  rw [hx] at hc
  exact ways_of (mk := fun y : Nat => .int .u8 y) (fun e => by rw [e]; rfl) hw hc
theorem ways_name (B : Nat) (w : World) (R : Nat) (v : Value) (bs : List UInt8) (p : Nat) (bad err : Int) (hr : Rdr B w R v ⟨bs, p, bad, err⟩) :
    Ways (fun y : List UInt8 => .string ⟨y.toArray⟩) 23 #[.pointer (some ⟨R, 0, none⟩)] B w R v bs p bad err (.string ⟨#[]⟩) := by
  obtain ⟨x, p', bad', err', hx, hw⟩ := name_went ⟨bs, p, bad, err⟩ hr.at_
  have hc := rname_any B w R v _ hr
  rw [hx] at hc
  exact ways_of (mk := fun y : List UInt8 => .string ⟨y.toArray⟩) (fun e => by rw [e]) hw hc

set_option maxRecDepth 100000 in
set_option maxHeartbeats 8000000 in
theorem law_stops (ao : Option Addr) (cap : Nat) (bs : List UInt8) (lo : Option Addr) (lcap : Nat) (l : List Stp) (w : World) (hrow : Row w ao cap bs) (hl : StepRow w lo lcap l) :
    Calls Try.prog 8 #[.slice ao bs.length cap, .slice lo l.length lcap] w fun e w' => e = .returned (.bool true) ∧ Below w.heap.size w w' := by
  by_cases hbig : 4096 < bs.length ∨ 100 < l.length
  · clear hrow hl
    have hb : (4096 < bs.length) ∨ (bs.length ≤ 4096 ∧ 100 < l.length) := by omega
    clear hbig
    rcases hb with hb | ⟨hb1, hb2⟩
    all_goals
      go_enter Try.func8, Try.ntmps8
      go_wp2_with (go_at_call 9; refine (works_any _).mono ?_; rintro x w1 ⟨rfl, b1⟩)
      go_ret
      exact ⟨rfl, b1⟩
  · have hb1 : bs.length ≤ 4096 := by omega
    have hb2 : l.length ≤ 100 := by omega
    have HRow := Lib.hid hrow
    have HSteps := Lib.hid hl
    clear hrow hl hbig
    go_enter Try.func8, Try.ntmps8
    go_wp2_with (go_at_call 18; refine (new_any _ _ _ _ HRow.out (by omega)).mono ?_; rintro e w1 ⟨R, vR, rfl, hR, bR⟩; have HR := Lib.hid hR; have HB := Lib.hid bR; clear hR bR; unfold ptr)
    go_loopw [6] (fun i wr => StopsRel w w.heap.size R vR bs l.length i wr) (fun i _ => l.length - (intOf i).toNat)
    case atStart => exact ⟨0, 0, 0, 0, Nat.zero_le _, rfl, HR.out, HB.out⟩
    case round =>
      obtain ⟨k, p, bad, err, hk, rfl, hr, hbel⟩ := hrel
      have HR1 := Lib.hid hr
      have HB1 := Lib.hid hbel
      clear hr hbel
      by_cases hlt : k < l.length
      · obtain ⟨b, off, hlo, c0, c1, c2, c3⟩ := (HSteps.out.below HB1.out).place k hlt
        subst hlo
        obtain ⟨d, hd⟩ : ∃ d, d = (l[k]).d := ⟨_, rfl⟩
        obtain ⟨n, hn⟩ : ∃ n, n = (l[k]).n := ⟨_, rfl⟩
        rw [← hd] at c0
        rw [← hn] at c1
        clear hd hn c2 c3
        have hsum : ∀ y : Int, (y + ((bs.length : Int) - y) != (bs.length : Int)) = false := fun y => by rw [bne_eq_false_iff_eq]; omega
        go_wp2_with fail
        refine (bad_any _ _ R vR _ HR1.out).mono ?_
        rintro e w' ⟨rfl, q1, rfl⟩
        go_wp2_with fail
        refine (at_any _ _ R vR _ (HR1.out.drewN q1)).mono ?_
        rintro e w' ⟨rfl, rfl⟩
        go_wp2_with fail
        · rcases ways_number _ _ R vR bs p bad err (HR1.out.drewN q1) n with ⟨h1, rfl, x, p', bad', h2, h3, hc⟩ | ⟨rfl, bad', err', h1, hc⟩ | ⟨h1, hc⟩
          all_goals
            try dsimp only at hc
            refine hc.mono ?_
            clear hc
            rintro e w5 ⟨rfl, hr5, g5⟩
            have HR5 := Lib.hid hr5
            have HB5 := Lib.hid (HB1.out.trans (grownBy_below (grownBy_drewN g5) HB1.out.size hr5.low))
            clear hr5 g5
            go_wp2_with fail
            refine (bad_any _ _ R vR _ HR5.out).mono ?_
            rintro e w' ⟨rfl, q2, rfl⟩
            go_wp2_with (first
              | (go_at_call 28; refine (at_any _ _ R vR _ (HR5.out.drewN q2)).mono ?_; rintro e w' ⟨rfl, rfl⟩)
              | (go_at_call 29; refine (left_any _ _ R vR _ (HR5.out.drewN q2)).mono ?_; rintro e w' ⟨rfl, q3, rfl⟩))
            go_roundw
            case rel => exact ⟨k + 1, _, _, _, by omega, by go_num, HR5.out.drewN (q2 + q3), below_drewN HB5.out (q2 + q3)⟩
            case measure => simp [intOf]; omega
        · rcases ways_byte _ _ R vR bs p bad err (HR1.out.drewN q1) with ⟨h1, rfl, x, p', bad', h2, h3, hc⟩ | ⟨rfl, bad', err', h1, hc⟩ | ⟨h1, hc⟩
          all_goals
            try dsimp only at hc
            refine hc.mono ?_
            clear hc
            rintro e w5 ⟨rfl, hr5, g5⟩
            have HR5 := Lib.hid hr5
            have HB5 := Lib.hid (HB1.out.trans (grownBy_below (grownBy_drewN g5) HB1.out.size hr5.low))
            clear hr5 g5
            go_wp2_with fail
            refine (bad_any _ _ R vR _ HR5.out).mono ?_
            rintro e w' ⟨rfl, q2, rfl⟩
            go_wp2_with (first
              | (go_at_call 28; refine (at_any _ _ R vR _ (HR5.out.drewN q2)).mono ?_; rintro e w' ⟨rfl, rfl⟩)
              | (go_at_call 29; refine (left_any _ _ R vR _ (HR5.out.drewN q2)).mono ?_; rintro e w' ⟨rfl, q3, rfl⟩))
            go_roundw
            case rel => exact ⟨k + 1, _, _, _, by omega, by go_num, HR5.out.drewN (q2 + q3), below_drewN HB5.out (q2 + q3)⟩
            case measure => simp [intOf]; omega
        · rcases ways_name _ _ R vR bs p bad err (HR1.out.drewN q1) with ⟨h1, rfl, x, p', bad', h2, h3, hc⟩ | ⟨rfl, bad', err', h1, hc⟩ | ⟨h1, hc⟩
          all_goals
            try dsimp only at hc
            refine hc.mono ?_
            clear hc
            rintro e w5 ⟨rfl, hr5, g5⟩
            have HR5 := Lib.hid hr5
            have HB5 := Lib.hid (HB1.out.trans (grownBy_below (grownBy_drewN g5) HB1.out.size hr5.low))
            clear hr5 g5
            go_wp2_with fail
            refine (bad_any _ _ R vR _ HR5.out).mono ?_
            rintro e w' ⟨rfl, q2, rfl⟩
            go_wp2_with (first
              | (go_at_call 28; refine (at_any _ _ R vR _ (HR5.out.drewN q2)).mono ?_; rintro e w' ⟨rfl, rfl⟩)
              | (go_at_call 29; refine (left_any _ _ R vR _ (HR5.out.drewN q2)).mono ?_; rintro e w' ⟨rfl, q3, rfl⟩))
            go_roundw
            case rel => exact ⟨k + 1, _, _, _, by omega, by go_num, HR5.out.drewN (q2 + q3), below_drewN HB5.out (q2 + q3)⟩
            case measure => simp [intOf]; omega
      · obtain rfl : k = l.length := by omega
        clear hlt
        go_wp2_with (go_at_call 9; refine (works_any _).mono ?_; rintro x w9 ⟨rfl, b9⟩)
        go_ret
        exact ⟨rfl, HB1.out.trans (b9.mono HB1.out.size)⟩
end Go.Proofs.Ytjnafoiijcdpfaa
