/-
  The mathematics of TermNames: names are such as may be; how many names two terms have together; strings; term.Names of what may not be.
-/
import Derived.Test.YtijdlihodpodjaaTrmNames
import Derived.Test.YtijdlihodpodjaaTrmBndMath
import Derived.Test.YtijdlihodpodjaaTrmMono
import Derived.Test.YtijdlihodpodjaaTrmWorks
import Derived.BigQuiet
namespace Go.Proofs.Ytijdlihodpodjaa
open Go.RowKit Go.Shelf Go.Maps Go.Sort Lvl Trm

namespace Trm
theorem names_ok {x : List UInt8} {t : Tm} : ∀ {d : Int}, OkMay t d → x ∈ t.nms → nameOk ⟨x.toArray⟩ = true := by
  induction t using Tm.ind with
  | h t ih =>
    intro d ho hx
    rw [Tm.nms_eq] at hx
    rcases List.mem_append.1 hx with hx | hx
    · unfold oneN at hx
      split at hx
      · cases hx
      · rename_i hs
        simp at hx
        subst hx
        have h0 := ho.node.1
        unfold Tm.node at h0
        simp only [Bool.and_eq_true] at h0
        have h4 := h0.1.1.2
        split at h4
        · exact h4
        · exact absurd (of_decide_eq_true h4) hs
    · have key : ∀ ts : List Tm, (∀ y ∈ ts, y ∈ t.ts) → x ∈ nmsL ts → nameOk ⟨x.toArray⟩ = true := by
        intro ts
        induction ts with
        | nil => intro _ h; rw [nmsL] at h; cases h
        | cons y r ihr =>
          intro hm h
          rw [nmsL] at h
          rcases List.mem_append.1 h with h | h
          · exact ih y (hm y (by simp)) (ho.down y (hm y (by simp))) h
          · exact ihr (fun z hz => hm z (by simp [hz])) h
      exact key t.ts (fun y hy => hy) hx
theorem may_parts {k : Int} (hk : k = 4 ∨ k = 5 ∨ k = 6) {f x : Tm} (h : (t2 k f x).may = true) : f.may = true ∧ x.may = true := by
  have h0 := may_left.1 h
  rw [left_t2 k hk] at h0
  split at h0
  · omega
  · split at h0
    · omega
    · rename_i h1 h2
      have hf : 0 ≤ f.left badMay (65536 - 1) (4096 - 1) := by omega
      have hl := f.left_ge badMay (65536 - 1) (4096 - 1)
      have hx : 0 ≤ x.left badMay (f.left badMay (65536 - 1) (4096 - 1)) (4096 - 1) := by split at h0 <;> omega
      exact ⟨may_left.2 (left_mono (fun t h => h) f _ _ 65536 4096 hf (by omega) (by omega)).1, may_left.2 (left_mono (fun t h => h) x _ _ 65536 4096 hx (by omega) (by omega)).1⟩
theorem nms_t2 (k : Int) (f x : Tm) : (t2 k f x).nms = f.nms ++ x.nms := by
  unfold t2
  rw [Tm.nms, nmsL, nmsL, nmsL, List.append_nil]
  rfl

/-- How many places of the one list and of the other one have the same name. -/
def cnt (l y : List (List UInt8)) : Nat := (l.map (fun a => y.count a)).sum
theorem cnt_snoc (l y : List (List UInt8)) (a : List UInt8) : cnt (l ++ [a]) y = cnt l y + y.count a := by simp [cnt]
theorem rises_nodup {l : List (List UInt8)} (h : Rises l) : l.Nodup :=
  (List.Pairwise.imp (fun {a b} (hab : a < b) (e : a = b) => by subst e; exact List.lt_irrefl _ hab) h : l.Pairwise (· ≠ ·))
theorem filter_parts (p : List UInt8 → Bool) : ∀ l : List (List UInt8), (l.filter p).length + (l.filter (fun a => !p a)).length = l.length
  | [] => rfl
  | a :: r => by
    have ih := filter_parts p r
    rw [List.filter_cons, List.filter_cons]
    cases p a
    · simp only [Bool.not_false, if_true, Bool.false_eq_true, if_false, List.length_cons]; omega
    · simp only [Bool.not_true, if_true, Bool.false_eq_true, if_false, List.length_cons]; omega
theorem cnt_filter {y : List (List UInt8)} (hy : y.Nodup) : ∀ x : List (List UInt8), cnt x y = (x.filter (fun a => decide (a ∈ y))).length
  | [] => rfl
  | a :: r => by
    have h1 : cnt (a :: r) y = y.count a + cnt r y := by simp [cnt]
    rw [h1, cnt_filter hy r, List.filter_cons]
    by_cases h : a ∈ y
    · rw [if_pos (by simpa using h), List.length_cons, hy.count, if_pos h]; omega
    · rw [if_neg (by simpa using h), List.count_eq_zero.2 h]; omega
theorem names_count {x y z : List (List UInt8)} (hx : Rises x) (hy : Rises y) (hz : Rises z) (hm : ∀ a, a ∈ z ↔ a ∈ x ∨ a ∈ y) : z.length + cnt x y = x.length + y.length := by
  have nx := rises_nodup hx
  have ny := rises_nodup hy
  have nz := rises_nodup hz
  rw [cnt_filter ny]
  have h1 : (x.filter (fun a => decide (a ∈ y))).length + (x.filter (fun a => !decide (a ∈ y))).length = x.length := filter_parts _ x
  have hn : (y ++ x.filter (fun a => !decide (a ∈ y))).Nodup := by
    rw [List.nodup_append]
    refine ⟨ny, nx.filter _, fun a ha b hb e => ?_⟩
    subst e
    have := (List.mem_filter.1 hb).2
    simp at this
    exact this ha
  have hs : ∀ a, a ∈ z ↔ a ∈ y ++ x.filter (fun a => !decide (a ∈ y)) := fun a => by
    rw [hm a, List.mem_append, List.mem_filter]
    by_cases h : a ∈ y
    · simp [h]
    · simp [h]
  have e : z.length = (y ++ x.filter (fun a => !decide (a ∈ y))).length := Nat.le_antisymm (nodup_le _ _ nz (fun a ha => (hs a).1 ha)) (nodup_le _ _ hn (fun a ha => (hs a).2 ha))
  rw [List.length_append] at e
  omega
theorem cnt_le (l y : List (List UInt8)) : cnt l y ≤ l.length * y.length := by
  induction l with
  | nil => simp [cnt]
  | cons a r ih =>
    have h1 : cnt (a :: r) y = y.count a + cnt r y := by simp [cnt]
    have h2 : y.count a ≤ y.length := List.count_le_length
    rw [h1, List.length_cons, Nat.succ_mul]
    omega

/-- What Names answers of any term. -/
def NamesPost2 (t : Tm) (w : World) (e : Ending) (w' : World) : Prop := ∃ ao cap l, e = .returned (.slice ao l.length cap) ∧ SRow w'.heap.size w' ao l ∧ (t.may = true → Rises l ∧ ∀ x, x ∈ l ↔ x ∈ t.nms) ∧ l.length ≤ 65536 ∧ Below w.heap.size w w'
theorem names_few {t : Tm} (hm : t.may = true) {l : List (List UInt8)} (hr : Rises l) (h : ∀ x, x ∈ l ↔ x ∈ t.nms) : l.length ≤ 65536 := by
  have h1 := nodup_le l t.nms (rises_nodup hr) (fun x hx => (h x).1 hx)
  have h2 := nms_size t
  have h3 := count_ge t
  unfold Tm.count at h3
  rw [if_pos hm] at h3
  omega
end Trm

set_option maxRecDepth 100000 in
set_option maxHeartbeats 1000000 in
theorem Names_any (t : Tm) (h : Hd) (w : World) (hin : t.In w.heap.size w h) :
    Calls Try.prog 22 #[t.val h] w (NamesPost2 t w) := by
  cases hm : t.may
  · have HM := Lib.hid (fun (W : World) (hW : Below w.heap.size w W) => (show Calls Try.prog 14 #[t.val h] W fun e w' => e = .returned (.bool false) ∧ Below W.heap.size W w' from hm ▸ PMay_any t h W (Tm.In.mono hW.size _ _ (Tm.In.below hW _ _ hin))))
    have HT : Hid (¬ t.may = true) := Lib.hid (by rw [hm]; simp)
    unfold Tm.val at HM ⊢
    dsimp only [Tm.vals] at HM ⊢
    clear hin hm
    go_enter Try.func22, Try.ntmps22
    go_wp2_with fail
    refine (HM.out _ (below_one w _)).mono ?_
    rintro e w1 ⟨rfl, b1⟩
    have HB1 := Lib.hid (Trm.go (below_one w _) b1)
    clear b1
    go_wp2_with fail
    go_ret
    exact ⟨none, 0, [], rfl, ⟨fun k hk => by simp at hk⟩, fun hh => absurd hh HT.out, by simp, HB1.out⟩
  · refine (Names_yes t h w hin hm).mono ?_
    rintro e w' ⟨ao, cap, l, he, h1, h2, h3, h4⟩
    exact ⟨ao, cap, l, he, h1, fun _ => ⟨h2, h3⟩, names_few hm h2 h3, h4⟩

def Trm.StrsRel (w : World) (a b : List (List UInt8)) (G : Bool) (i : Value) (wr : World) : Prop :=
  ∃ k : Nat, i = .int .i64 k ∧ k ≤ a.length ∧ ((a.drop k == b.drop k) = G) ∧ Below w.heap.size w wr

set_option maxRecDepth 100000 in
set_option maxHeartbeats 2000000 in
theorem strings_any (a b : List (List UInt8)) (aa ab : Option Addr) (ca cb : Nat) (w : World) (ha : SRow w.heap.size w aa a) (hb : SRow w.heap.size w ab b) (hla : a.length ≤ 1000000) :
    Calls Try.prog 26 #[.slice aa a.length ca, .slice ab b.length cb] w fun e w' => e = .returned (.bool (a == b)) ∧ Below w.heap.size w w' := by
  obtain ⟨G, hG⟩ : ∃ G, G = (a == b) := ⟨_, rfl⟩
  rw [← hG]
  by_cases hl : a.length = b.length
  · have d1 : ((a.length : Int) != (b.length : Int)) = false := by simp; omega
    have HG : Hid ((a.drop 0 == b.drop 0) = G) := Lib.hid hG.symm
    have HA := Lib.hid ha
    have HB := Lib.hid hb
    have HL := Lib.hid hl
    clear hG ha hb hl
    go_enter Try.func26, Try.ntmps26
    go_wp2_with fail
    go_loopw [5] (fun i wr => StrsRel w a b G i wr) (fun i _ => a.length - (intOf i).toNat)
    case atStart => exact ⟨0, rfl, by omega, HG.out, Below.refl _ _⟩
    case round =>
      obtain ⟨k, rfl, hk, hg, hbel⟩ := hrel
      have HGK := Lib.hid hg
      have HBE := Lib.hid hbel
      clear hg hbel
      by_cases hlt : k < a.length
      · have hlt2 : k < b.length := by rw [← HL.out]; exact hlt
        obtain ⟨b1, o1, rfl, hb1, p1⟩ := (HA.out.below HBE.out).place k hlt
        obtain ⟨b2, o2, rfl, hb2, p2⟩ := (HB.out.below HBE.out).place k hlt2
        have h0 : (0 : Int) ≤ (k : Int) := Int.natCast_nonneg _
        have h1 : (k : Int) < (a.length : Int) := by omega
        have h2 : (k : Int) < (b.length : Int) := by omega
        have HS : Hid (a.drop k = a[k] :: a.drop (k + 1) ∧ b.drop k = b[k] :: b.drop (k + 1)) := Lib.hid ⟨List.drop_eq_getElem_cons hlt, List.drop_eq_getElem_cons hlt2⟩
        have e1 : (⟨a[k].toArray⟩ : ByteArray).toList = a[k] := by rw [ByteArray.toList_eq]
        have e2 : (⟨b[k].toArray⟩ : ByteArray).toList = b[k] := by rw [ByteArray.toList_eq]
        generalize (⟨a[k].toArray⟩ : ByteArray) = s1 at p1 e1
        generalize (⟨b[k].toArray⟩ : ByteArray) = s2 at p2 e2
        by_cases heq : a[k] = b[k]
        · have q : (s1.toList == s2.toList) = true := by rw [e1, e2, heq]; exact beq_self_eq_true _
          have HN : Hid ((a.drop (k + 1) == b.drop (k + 1)) = G) := Lib.hid (by
            have h : ((a[k] :: a.drop (k + 1)) == (b[k] :: b.drop (k + 1))) = G := by rw [← HS.out.1, ← HS.out.2]; exact HGK.out
            rw [heq, List.cons_beq_cons, beq_self_eq_true, Bool.true_and] at h
            exact h)
          clear e1 e2 heq
          go_wp2_with fail
          go_quiet (fail)
          go_wp2_with fail
          go_roundw
          case rel => exact ⟨k + 1, by go_num, by omega, HN.out, HBE.out.trans (by refine ⟨?_, ?_, ?_, ?_, ?_⟩ <;> simp [World.drewN])⟩
          case measure => simp [intOf]; omega
        · have q : (s1.toList == s2.toList) = false := by rw [e1, e2]; exact beq_eq_false_iff_ne.2 heq
          have HE : Hid (false = G) := Lib.hid (by
            have h : ((a[k] :: a.drop (k + 1)) == (b[k] :: b.drop (k + 1))) = G := by rw [← HS.out.1, ← HS.out.2]; exact HGK.out
            rw [← h, List.cons_beq_cons, beq_eq_false_iff_ne.2 heq, Bool.false_and])
          clear e1 e2 heq
          go_wp2_with fail
          go_quiet (fail)
          go_wp2_with fail
          go_ret
          exact ⟨ret_bool HE.out, HBE.out.trans (by refine ⟨?_, ?_, ?_, ?_, ?_⟩ <;> simp [World.drewN])⟩
      · have HE : Hid (true = G) := Lib.hid (by
          have h := HGK.out
          have hl := HL.out
          rw [List.drop_eq_nil_of_le (by omega), List.drop_eq_nil_of_le (by omega)] at h
          rw [← h]; rfl)
        go_wp2_with fail
        go_ret
        exact ⟨ret_bool HE.out, HBE.out⟩
  · have d1 : ((a.length : Int) != (b.length : Int)) = true := by simp; omega
    have HE : Hid (false = G) := Lib.hid (by
      rw [hG]
      symm
      rw [beq_eq_false_iff_ne]
      intro e
      exact hl (by rw [e]))
    clear hG hl ha hb
    go_enter Try.func26, Try.ntmps26
    go_wp2_with fail
    go_ret
    exact ⟨ret_bool HE.out, Below.refl _ _⟩
end Go.Proofs.Ytijdlihodpodjaa
