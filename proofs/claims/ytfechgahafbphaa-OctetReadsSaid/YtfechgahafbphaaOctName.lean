/-
  octet.Name and battenref01.Is say whether a text is a name; they write nothing.
-/
import Derived.Test.YtfechgahafbphaaOctPut
namespace Go.Proofs.Ytfechgahafbphaa
open Go.RowKit Oct

theorem Oct.inName_iff {c : Int} (h0 : 0 ≤ c) : inName c.toNat = true ↔ (97 ≤ c ∧ c ≤ 122) ∨ (65 ≤ c ∧ c ≤ 90) ∨ (48 ≤ c ∧ c ≤ 57) ∨ c = 95 ∨ c = 46 ∨ c = 39 := by
  simp only [inName, Bool.or_eq_true, Bool.and_eq_true, decide_eq_true_eq]
  omega
theorem Oct.inName_not {c : Int} (h0 : 0 ≤ c) : inName c.toNat = false ↔ ¬ ((97 ≤ c ∧ c ≤ 122) ∨ (65 ≤ c ∧ c ≤ 90) ∨ (48 ≤ c ∧ c ≤ 57) ∨ c = 95 ∨ c = 46 ∨ c = 39) := by
  rw [← inName_iff h0]; simp
theorem Oct.inName_nat (c : Nat) : inName c = true ↔ (97 ≤ c ∧ c ≤ 122) ∨ (65 ≤ c ∧ c ≤ 90) ∨ (48 ≤ c ∧ c ≤ 57) ∨ c = 95 ∨ c = 46 ∨ c = 39 := by
  simp only [inName, Bool.or_eq_true, Bool.and_eq_true, decide_eq_true_eq]
  omega
theorem Oct.ret_bool {a b : Bool} (h : a = b) : Ending.returned (.bool a) = .returned (.bool b) := by rw [h]

set_option maxRecDepth 100000 in
set_option maxHeartbeats 1000000 in
theorem inName_any (w : World) (c : Int) (h0 : 0 ≤ c) (h1 : c ≤ 255) :
    Calls Try.prog 133 #[.int .u8 c] w fun e w' => e = .returned (.bool (inName c.toNat)) ∧ w = w' := by
  go_enter Try.func133, Try.ntmps133
  go_wp2
  all_goals
    go_ret
    refine ⟨ret_bool (Eq.symm ?_), rfl⟩
    try simp only [beq_iff_eq, beq_eq_false_iff_ne] at *
    first
      | (refine (inName_iff h0).2 ?_; omega)
      | (refine (inName_not h0).2 ?_; omega)

theorem inName_yes (w : World) (c : Int) (h0 : 0 ≤ c) (h1 : c ≤ 255) (h : inName c.toNat = true) :
    Calls Try.prog 133 #[.int .u8 c] w fun e w' => e = .returned (.bool true) ∧ w = w' :=
  (inName_any w c h0 h1).mono fun _ _ ⟨a, b⟩ => ⟨by rw [a, h], b⟩
theorem inName_no (w : World) (c : Int) (h0 : 0 ≤ c) (h1 : c ≤ 255) (h : inName c.toNat = false) :
    Calls Try.prog 133 #[.int .u8 c] w fun e w' => e = .returned (.bool false) ∧ w = w' :=
  (inName_any w c h0 h1).mono fun _ _ ⟨a, b⟩ => ⟨by rw [a, h], b⟩

/-- The first k bytes may stand in a name. -/
def Oct.allIn (s : ByteArray) (k : Nat) : Bool := (s.data.toList.take k).all fun c => inName c.toNat
theorem Oct.allIn_zero (s : ByteArray) : allIn s 0 = true := by simp [allIn]
theorem Oct.allIn_succ (s : ByteArray) (k : Nat) (h : k < s.size) : allIn s (k + 1) = (allIn s k && inName (s[k]).toNat) := by
  unfold allIn
  rw [List.take_succ_eq_append_getElem (by simpa using h), List.all_append]
  simp; rfl
theorem Oct.isName_all {s : ByteArray} (h0 : 0 < s.size) (h : s.size ≤ 32) : isName s.data.toList = allIn s s.size := by
  have e : s.data.toList.length = s.size := by simp
  unfold isName allIn
  rw [e, List.take_of_length_le (by omega)]
  simp [h0, h]
theorem Oct.isName_short {s : ByteArray} (h : s.size = 0 ∨ 32 < s.size) : isName s.data.toList = false := by
  have e : s.data.toList.length = s.size := by simp
  unfold isName
  rw [e]
  simp; omega
theorem Oct.allIn_cut {s : ByteArray} {k : Nat} (h : k < s.size) (hc : inName (s[k]).toNat = false) : allIn s s.size = false := by
  have key : ∀ d, k + 1 + d ≤ s.size → allIn s (k + 1 + d) = false := by
    intro d
    induction d with
    | zero => intro _; rw [Nat.add_zero, allIn_succ s k h, hc]; simp
    | succ d ih => intro hd; rw [← Nat.add_assoc, allIn_succ s _ (by omega), ih (by omega)]; simp
  have := key (s.size - (k + 1)) (by omega)
  rwa [show k + 1 + (s.size - (k + 1)) = s.size by omega] at this

/-- The call returned this bool, and nothing has turned. -/
def Oct.Says (w : World) (b : Bool) (e : Ending) (w' : World) : Prop := e = .returned (.bool b) ∧ w = w'
def Oct.NameRel (s : ByteArray) (i : Value) : Prop := ∃ k : Nat, k ≤ s.size ∧ i = .int .i64 k ∧ allIn s k = true

set_option maxRecDepth 100000 in
set_option maxHeartbeats 1000000 in
theorem name_any (w : World) (s : ByteArray) (hs : s.size ≤ 1000000) :
    Calls Try.prog 84 #[.string s] w (Says w (isName s.data.toList)) := by
  by_cases h0 : s.size = 0
  · have hb : ((s.size : Int) == 0) = true := by simp [h0]
    have HN := Lib.hid (isName_short (.inl h0))
    clear h0
    go_enter Try.func84, Try.ntmps84
    go_wp2
    go_ret
    exact ⟨ret_bool HN.out.symm, rfl⟩
  have hb : ((s.size : Int) == 0) = false := beq_eq_false_iff_ne.2 (by omega)
  by_cases h32 : 32 < s.size
  · have HN := Lib.hid (isName_short (.inr h32))
    clear h0
    go_enter Try.func84, Try.ntmps84
    go_wp2
    go_ret
    exact ⟨ret_bool HN.out.symm, rfl⟩
  have HN := Lib.hid (isName_all (s := s) (by omega) (by omega))
  clear h0
  go_enter Try.func84, Try.ntmps84
  go_wp2
  go_loop [14] (fun i => NameRel s i) (fun i => s.size - (intOf i).toNat)
  case atStart => exact ⟨0, Nat.zero_le _, rfl, allIn_zero s⟩
  case round =>
    obtain ⟨k, hk, rfl, hall⟩ := hrel
    have HA := Lib.hid hall
    clear hall
    by_cases hlt : k < s.size
    · have hlo : (0 : Int) ≤ (s[k].toNat : Int) := by omega
      have hhi : (s[k].toNat : Int) ≤ 255 := by have := s[k].toNat_lt; omega
      cases hc : inName (s[k]).toNat
      · have HC := Lib.hid hc
        clear hc
        go_wp2_with (go_at_call 133; refine (inName_no _ _ hlo hhi HC.out).mono ?_; rintro e w' ⟨rfl, rfl⟩)
        go_ret
        exact ⟨ret_bool (by rw [HN.out, allIn_cut hlt HC.out]), rfl⟩
      · have HC := Lib.hid hc
        clear hc
        go_wp2_with (go_at_call 133; refine (inName_yes _ _ hlo hhi HC.out).mono ?_; rintro e w' ⟨rfl, rfl⟩)
        go_round
        case rel => exact ⟨k + 1, by omega, by go_num, by rw [allIn_succ s k hlt, HA.out, HC.out]; rfl⟩
        case measure => simp [intOf]; omega
    · go_wp2
      go_ret
      obtain rfl : k = s.size := by omega
      exact ⟨ret_bool (by rw [HN.out, HA.out]), rfl⟩

theorem Oct.isName_def (s : ByteArray) : isName s.data.toList = (decide (1 ≤ (s.size : Int)) && decide ((s.size : Int) ≤ 32) && allIn s s.size) := by
  have e : s.data.toList.length = s.size := by simp
  unfold isName allIn
  rw [e, List.take_of_length_le (by omega)]
  congr 1
  congr 1
  · exact decide_eq_decide.2 (by omega)
  · exact decide_eq_decide.2 (by omega)

set_option maxRecDepth 100000 in
set_option maxHeartbeats 4000000 in
theorem is_any (w : World) (s : ByteArray) (hs : s.size ≤ 1000000) :
    Calls Try.prog 90 #[.string s] w (Says w (isName s.data.toList)) := by
  have HN := Lib.hid (isName_def s)
  go_enter Try.func90, Try.ntmps90
  go_wp2
  go_loop [3] (fun i => NameRel s i) (fun i => s.size - (intOf i).toNat)
  case atStart => exact ⟨0, Nat.zero_le _, rfl, allIn_zero s⟩
  case round =>
    obtain ⟨k, hk, rfl, hall⟩ := hrel
    have HA := Lib.hid hall
    clear hall
    by_cases hlt : k < s.size
    · go_wp2
      all_goals first
        | (go_round
           case rel =>
             simp only [Bool.not_eq_eq_eq_not, Bool.not_true, Bool.not_false, decide_eq_true_eq, decide_eq_false_iff_not, bne_iff_ne, ne_eq, bne_eq_false_iff_eq] at *
             exact ⟨k + 1, by omega, by go_num, by rw [allIn_succ s k hlt, HA.out, (inName_nat _).2 (by omega)]; rfl⟩
           case measure => simp [intOf]; omega)
        | (go_ret
           simp only [Bool.not_eq_eq_eq_not, Bool.not_true, decide_eq_false_iff_not, bne_iff_ne, ne_eq] at *
           exact ⟨ret_bool (by rw [HN.out, allIn_cut hlt (Bool.eq_false_iff.2 fun h => by have := (inName_nat _).1 h; omega)]; simp), rfl⟩)
    · obtain rfl : k = s.size := by omega
      clear hlt
      go_wp2
      all_goals
        go_ret
        refine ⟨ret_bool ?_, rfl⟩
        rw [HN.out, HA.out]
        simp only [Bool.and_true, *]
        try simp
        try omega
end Go.Proofs.Ytfechgahafbphaa
