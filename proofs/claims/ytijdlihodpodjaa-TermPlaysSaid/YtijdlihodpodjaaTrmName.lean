/-
  term.Name, battenref03.Name.
-/
import Derived.Test.YtijdlihodpodjaaTrmDeep
import Derived.BigQuiet
import Derived.Deep.QuietTactic
namespace Go.Proofs.Ytijdlihodpodjaa
open Go.RowKit Go.Shelf Lvl Trm

set_option maxRecDepth 100000 in
set_option maxHeartbeats 1000000 in
theorem inName_any (x : Int) (w : World) :
    Calls Try.prog 67 #[.int .u8 x] w fun e w' => e = .returned (.bool (inNameI x)) ∧ w = w' := by
  go_enter Try.func67, Try.ntmps67
  go_wp2_with fail
  all_goals
    go_ret
    refine ⟨ret_bool ?_, rfl⟩
    unfold inNameI
    rw [Bool.eq_iff_iff]
    simp
    try omega

theorem Trm.nameOk_no {s : ByteArray} (h : s.size = 0 ∨ 32 < s.size) : nameOk s = false := by
  unfold nameOk
  rcases h with h | h <;> simp [h]
  omega
theorem Trm.all_take_no {l : List UInt8} {k : Nat} (hk : k < l.length) (h : inName l[k] = false) : l.all inName = false := by
  rw [List.all_eq_false]
  exact ⟨l[k], List.getElem_mem hk, by simp [h]⟩
theorem Trm.all_take_yes {l : List UInt8} {k : Nat} (hk : k < l.length) (ht : (l.take k).all inName = true) (h : inName l[k] = true) : (l.take (k + 1)).all inName = true := by
  rw [List.take_succ_eq_append_getElem hk, List.all_append, ht]
  simp [h]
def Trm.NameRel (s : ByteArray) (i : Value) : Prop := ∃ k : Nat, i = .int .i64 k ∧ k ≤ s.size ∧ (s.data.toList.take k).all inName = true

set_option maxRecDepth 100000 in
set_option maxHeartbeats 1000000 in
theorem Name_any (s : ByteArray) (w : World) (hs : s.size ≤ 9223372036854775807) :
    Calls Try.prog 15 #[.string s] w fun e w' => e = .returned (.bool (nameOk s)) ∧ w = w' := by
  by_cases h0 : s.size = 0
  · rw [nameOk_no (Or.inl h0)]
    go_enter Try.func15, Try.ntmps15
    go_wp2
    go_ret
    exact ⟨rfl, rfl⟩
  · by_cases h1 : 32 < s.size
    · rw [nameOk_no (Or.inr h1)]
      go_enter Try.func15, Try.ntmps15
      go_wp2
      go_ret
      exact ⟨rfl, rfl⟩
    · have hok : nameOk s = s.data.toList.all inName := by unfold nameOk; simp [show 1 ≤ s.size by omega, show s.size ≤ 32 by omega]
      rw [hok]
      obtain ⟨G, hG⟩ : ∃ G, G = s.data.toList.all inName := ⟨_, rfl⟩
      rw [← hG]
      have HG := Lib.hid hG
      clear hok hG
      have h0' : ((s.size : Int) == 0) = false := by simpa using h0
      have h1' : (s.size : Int) ≤ 32 := by omega
      go_enter Try.func15, Try.ntmps15
      go_wp2
      go_loop [14] (fun i => NameRel s i) (fun i => s.size - (intOf i).toNat)
      case atStart => exact ⟨0, rfl, by omega, by simp⟩
      case round =>
        obtain ⟨k, rfl, hk, hall⟩ := hrel
        have HA := Lib.hid hall
        clear hall
        by_cases hlt : k < s.size
        · have hl : k < s.data.toList.length := by simpa using hlt
          have hget : s.data.toList[k] = s[k] := rfl
          cases hin : inName s[k]
          · have HF : Hid (false = G) := by rw [HG.out, all_take_no hl (by rw [hget]; exact hin)]; rfl
            have hin' : inNameI (s[k].toNat : Int) = false := hin
            have HC : Hid (∀ w, Calls Try.prog 67 #[.int .u8 (s[k].toNat : Int)] w fun e w' => e = .returned (.bool false) ∧ w = w') := fun w => by rw [← hin']; exact inName_any _ w
            clear hin hin' hget
            go_wp2_with fail
            refine (HC.out _).mono ?_
            rintro e w1 ⟨rfl, rfl⟩
            go_wp2_with fail
            go_ret
            exact ⟨ret_bool HF.out, rfl⟩
          · have HF := Lib.hid (all_take_yes hl HA.out (by rw [hget]; exact hin))
            have hin' : inNameI (s[k].toNat : Int) = true := hin
            have HC : Hid (∀ w, Calls Try.prog 67 #[.int .u8 (s[k].toNat : Int)] w fun e w' => e = .returned (.bool true) ∧ w = w') := fun w => by rw [← hin']; exact inName_any _ w
            clear hin hin' hget
            go_wp2_with fail
            refine (HC.out _).mono ?_
            rintro e w1 ⟨rfl, rfl⟩
            go_wp2_with fail
            go_round
            case rel => exact ⟨k + 1, by go_num, by omega, HF.out⟩
            case measure => simp [intOf]; omega
        · have HE : Hid (true = G) := by
            have := HA.out
            rw [List.take_of_length_le (by simp; omega)] at this
            rw [HG.out, this]; rfl
          go_wp2_with fail
          go_ret
          exact ⟨ret_bool HE.out, rfl⟩

theorem Trm.inNameI_no {x : Int} (h : ¬ ((97 ≤ x ∧ x ≤ 122) ∨ (65 ≤ x ∧ x ≤ 90) ∨ (48 ≤ x ∧ x ≤ 57) ∨ x = 95 ∨ x = 46 ∨ x = 39)) : inNameI x = false := decide_eq_false h
theorem Trm.inNameI_yes {x : Int} (h : (97 ≤ x ∧ x ≤ 122) ∨ (65 ≤ x ∧ x ≤ 90) ∨ (48 ≤ x ∧ x ≤ 57) ∨ x = 95 ∨ x = 46 ∨ x = 39) : inNameI x = true := decide_eq_true h
def Trm.RefRel (s : ByteArray) (i : Value) : Prop := ∃ k : Nat, i = .int .i64 k ∧ k ≤ s.size ∧ (s.data.toList.take k).all inName = true

set_option maxRecDepth 100000 in
set_option maxHeartbeats 2000000 in
theorem RefName_any (s : ByteArray) (w : World) (hs : s.size ≤ 9223372036854775807) :
    Calls Try.prog 16 #[.string s] w fun e w' => e = .returned (.bool (nameOk s)) ∧ w = w' := by
  obtain ⟨G, hG⟩ : ∃ G, G = nameOk s := ⟨_, rfl⟩
  rw [← hG]
  have HG := Lib.hid hG
  clear hG
  go_enter Try.func16, Try.ntmps16
  go_wp2
  go_loop [3] (fun i => RefRel s i) (fun i => s.size - (intOf i).toNat)
  case atStart => exact ⟨0, rfl, by omega, by simp⟩
  case round =>
    obtain ⟨k, rfl, hk, hall⟩ := hrel
    have HA := Lib.hid hall
    clear hall
    by_cases hlt : k < s.size
    · have hl : k < s.data.toList.length := by simpa using hlt
      have hget : s.data.toList[k] = s[k] := rfl
      have HY : Hid (inNameI (s[k].toNat : Int) = true → (s.data.toList.take (k + 1)).all inName = true) := Lib.hid (fun hin => all_take_yes hl HA.out (by rw [hget]; exact hin))
      have HN : Hid (inNameI (s[k].toNat : Int) = false → false = G) := Lib.hid (fun hin => by rw [HG.out, nameOk, all_take_no hl (by rw [hget]; exact hin)]; simp)
      clear hget
      go_wp2_with fail
      all_goals (try simp only [Bool.not_eq_true', Bool.not_eq_false', decide_eq_true_eq, decide_eq_false_iff_not, beq_iff_eq, beq_eq_false_iff_ne, ne_eq] at *)
      all_goals first
        | (have hno : ¬ ((97 ≤ (s[k].toNat : Int) ∧ (s[k].toNat : Int) ≤ 122) ∨ (65 ≤ (s[k].toNat : Int) ∧ (s[k].toNat : Int) ≤ 90) ∨ (48 ≤ (s[k].toNat : Int) ∧ (s[k].toNat : Int) ≤ 57) ∨ (s[k].toNat : Int) = 95 ∨ (s[k].toNat : Int) = 46 ∨ (s[k].toNat : Int) = 39) := by omega
           go_ret
           exact ⟨ret_bool (HN.out (inNameI_no hno)), rfl⟩)
        | (have hyes : ((97 ≤ (s[k].toNat : Int) ∧ (s[k].toNat : Int) ≤ 122) ∨ (65 ≤ (s[k].toNat : Int) ∧ (s[k].toNat : Int) ≤ 90) ∨ (48 ≤ (s[k].toNat : Int) ∧ (s[k].toNat : Int) ≤ 57) ∨ (s[k].toNat : Int) = 95 ∨ (s[k].toNat : Int) = 46 ∨ (s[k].toNat : Int) = 39) := by omega
           go_round
           case rel => exact ⟨k + 1, by go_num, by omega, HY.out (inNameI_yes hyes)⟩
           case measure => simp [intOf]; omega)
    · have HE : Hid (G = (decide (1 ≤ s.size) && decide (s.size ≤ 32))) := by
        have := HA.out
        rw [List.take_of_length_le (by simp; omega)] at this
        show _ = _
        rw [HG.out, nameOk, this, Bool.and_true]
      go_wp2_with fail
      all_goals
        go_ret
        refine ⟨ret_bool ?_, rfl⟩
        rw [HE.out, Bool.eq_iff_iff]
        simp
        try omega
end Go.Proofs.Ytijdlihodpodjaa
