/-
  battenref03.with: a list of names, rising, with one more.
-/
import Derived.Test.YtijdlihodpodjaaTrmNames
import Derived.Test.YtijdlihodpodjaaTrmSpine
import Derived.Laws.AppendOwnNone
namespace Go.Proofs.Ytijdlihodpodjaa
open Go.RowKit Go.Shelf Go.Maps Go.Sort Lvl Trm

theorem Trm.infoS : (Try.prog.info? 9).map (fun i => (i.zero, i.size, i.bytes)) = some (some (.string ⟨#[]⟩), 1, 16) := by kernel_rfl
namespace Trm
theorem bl_iff : {x y : List UInt8} → (Op.bytesLess x y = true ↔ x < y)
  | [], [] => by simp [Op.bytesLess]
  | _ :: _, [] => by simp [Op.bytesLess]
  | [], _ :: _ => by simp [Op.bytesLess]
  | a :: x, b :: y => by
    have ih := bl_iff (x := x) (y := y)
    simp only [Op.bytesLess, List.cons_lt_cons_iff, Bool.or_eq_true, Bool.and_eq_true, decide_eq_true_eq, beq_iff_eq, ih]
def ins (s : List UInt8) : List (List UInt8) → List (List UInt8)
  | [] => [s]
  | a :: r => if a < s then a :: ins s r else if a = s then a :: r else s :: a :: r
theorem mem_ins {s x : List UInt8} : ∀ {l : List (List UInt8)}, x ∈ ins s l ↔ x = s ∨ x ∈ l
  | [] => by simp [ins]
  | a :: r => by
    unfold ins
    by_cases h1 : a < s
    · rw [if_pos h1]; simp only [List.mem_cons, mem_ins (l := r)]; constructor <;> (intro h; rcases h with h | h | h) <;> simp_all
    · rw [if_neg h1]
      by_cases h2 : a = s
      · rw [if_pos h2]; subst h2; simp
      · rw [if_neg h2]; simp
theorem rises_ins {s : List UInt8} : ∀ {l : List (List UInt8)}, Rises l → Rises (ins s l)
  | [], _ => by simp [ins]
  | a :: r, h => by
    obtain ⟨h1, h2⟩ := List.pairwise_cons.1 h
    unfold ins
    by_cases h3 : a < s
    · rw [if_pos h3]
      refine List.pairwise_cons.2 ⟨fun z hz => ?_, rises_ins h2⟩
      rcases mem_ins.1 hz with e | hz2
      · rw [e]; exact h3
      · exact h1 z hz2
    · rw [if_neg h3]
      by_cases h4 : a = s
      · rw [if_pos h4]; exact h
      · rw [if_neg h4]
        have h5 : s < a := by
          rcases List.le_total a s with h | h
          · exact absurd (List.le_antisymm h (List.not_lt.1 h3)) h4
          · exact List.not_le.1 (fun hh => h4 (List.le_antisymm hh h))
        exact List.pairwise_cons.2 ⟨fun z hz => by
          rcases List.mem_cons.1 hz with e | hz2
          · rw [e]; exact h5
          · exact List.lt_trans h5 (h1 z hz2), h⟩
theorem ins_len (s : List UInt8) : ∀ l : List (List UInt8), (ins s l).length ≤ l.length + 1
  | [] => by simp [ins]
  | a :: r => by
    have := ins_len s r
    unfold ins
    by_cases h3 : a < s
    · rw [if_pos h3]; simp; omega
    · rw [if_neg h3]; split <;> simp
/-- A row of names that the call has made: none, or at the head of a block. -/
def NR (w : World) (v : Value) (l : List (List UInt8)) : Prop :=
  (v = .slice none 0 0 ∧ l = []) ∨ ∃ g cap, v = .slice (some ⟨g, 0, none⟩) l.length cap ∧ g < w.heap.size ∧ l.length ≤ cap ∧ cap ≤ maxLen ∧ ∀ k (hk : k < l.length), w.cell? ⟨g, k, none⟩ = some (.string ⟨l[k].toArray⟩)
theorem NR.carry {w w' : World} {v : Value} {l : List (List UInt8)} (h : NR w v l) (b : Below w.heap.size w w') : NR w' v l := by
  rcases h with h | ⟨g, cap, h1, h2, h3, h4, h5⟩
  · exact Or.inl h
  · exact Or.inr ⟨g, cap, h1, by have := b.size; omega, h3, h4, fun k hk => (b.cell (p := ⟨g, k, none⟩) h2).trans (h5 k hk)⟩
theorem NR.own {w : World} {base n : Nat} {v : Value} {l : List (List UInt8)} (hn : n = l.length) (h : w.ownsRow base 9 1 v n (l.map encStr)) : NR w v l := by
  subst hn
  have h0 := h
  obtain ⟨hl, ⟨hv, hn0⟩ | ⟨g, cap, cur, rfl, hb, hg, hm, hmx, hs, ht⟩⟩ := h
  · exact Or.inl ⟨hv, List.eq_nil_of_length_eq_zero hn0⟩
  · have hgl : g < w.heap.size := (Array.getElem?_eq_some_iff.1 hg).1
    refine Or.inr ⟨g, cap, rfl, hgl, hm, hmx, fun k hk => ?_⟩
    rw [h0.cellAt k (by omega), List.getElem?_map, List.getElem?_eq_getElem hk]
    rfl
def WithPost (l : List (List UInt8)) (w : World) (e : Ending) (w' : World) : Prop := ∃ v', e = .returned v' ∧ NR w' v' l ∧ Below w.heap.size w w'
def WiRel (w : World) (s : List UInt8) (l : List (List UInt8)) (i : Value) (wr : World) : Prop :=
  ∃ j : Nat, i = .int .i64 j ∧ j ≤ l.length ∧ ins s l = l.take j ++ ins s (l.drop j) ∧ wr = w
theorem ins_step {s : List UInt8} {l : List (List UInt8)} {j : Nat} (h : j < l.length) (hls : l[j] < s) (hi : ins s l = l.take j ++ ins s (l.drop j)) : ins s l = l.take (j + 1) ++ ins s (l.drop (j + 1)) := by
  rw [hi, List.take_succ_eq_append_getElem h, List.drop_eq_getElem_cons h, ins, if_pos hls, List.append_assoc]; rfl
theorem ins_eq {s : List UInt8} {l : List (List UInt8)} {j : Nat} (h : j < l.length) (hls : l[j] = s) (hi : ins s l = l.take j ++ ins s (l.drop j)) : ins s l = l := by
  rw [hi, List.drop_eq_getElem_cons h, ins, if_neg (by rw [hls]; exact List.lt_irrefl s), if_pos hls, ← List.drop_eq_getElem_cons h, List.take_append_drop]
theorem ins_here {s : List UInt8} {l : List (List UInt8)} {j : Nat} (h : j < l.length) (h1 : ¬ l[j] < s) (h2 : l[j] ≠ s) (hi : ins s l = l.take j ++ ins s (l.drop j)) : ins s l = l.take j ++ [s] ++ l.drop j := by
  rw [hi, List.drop_eq_getElem_cons h, ins, if_neg h1, if_neg h2]; simp
theorem ins_end {s : List UInt8} {l : List (List UInt8)} {j : Nat} (h : ¬ j < l.length) (hi : ins s l = l.take j ++ ins s (l.drop j)) : ins s l = l.take j ++ [s] ++ l.drop j := by
  rw [hi, List.drop_eq_nil_of_le (by omega), ins]; simp
theorem row_cells {w : World} {g o : Nat} {l : List (List UInt8)} (h : ∀ k (hk : k < l.length), w.cell? ⟨g, o + k, none⟩ = some (.string ⟨l[k].toArray⟩)) : ∀ (j : Nat) (u : Value), (l.map encStr)[j]? = some u → w.cell? ((⟨g, o, none⟩ : Addr).add j) = some u := by
  intro j u hj
  obtain ⟨hj1, hj2⟩ := List.getElem?_eq_some_iff.1 hj
  rw [List.length_map] at hj1
  rw [Addr.add_lit, h j hj1, ← hj2, List.getElem_map]
theorem fin_row {w : World} {base n j : Nat} {v : Value} {l r : List (List UInt8)} {s : ByteArray} (hr : r = l.take j ++ [s.toList] ++ l.drop j) (hn : n = j + 1 + (l.length - j) ∧ j ≤ l.length)
    (h : w.ownsRow base 9 1 v n ((l.map encStr).take j ++ .string s :: (l.map encStr).drop j)) : NR w v r := by
  have hs : Value.string s = encStr s.toList := by
    show Value.string s = Value.string ⟨s.toList.toArray⟩
    rw [Lib.toList_data]
  refine NR.own (n := n) (base := base) ?_ ?_
  · rw [hr, hn.1]
    simp only [List.length_append, List.length_take, List.length_drop, List.length_cons, List.length_nil]
    omega
  · rw [hr, List.map_append, List.map_append, List.map_take, List.map_drop, List.map_cons, List.map_nil, ← hs, List.append_assoc]
    exact h
theorem one_str (l : List (List UInt8)) : ∀ u ∈ l.map encStr, u.oneCell' = true := by
  intro u hu
  obtain ⟨x, _, rfl⟩ := List.mem_map.1 hu
  rfl
end Trm

set_option maxRecDepth 100000 in
set_option maxHeartbeats 8000000 in
theorem with_any (l : List (List UInt8)) (s : ByteArray) (v : Value) (w : World) (hr : NR w v l) (hl : l.length ≤ 65536) :
    Calls Try.prog 118 #[v, .string s] w (WithPost (ins s.toList l) w) := by
  obtain ⟨i0, hi, hz0, hz1, hz2⟩ := info_parts infoS
  have HR := Lib.hid hr
  rcases hr with ⟨rfl, rfl⟩ | ⟨g, cap, rfl, hg, hc, hcm, hcl⟩
  · go_enter Try.func118, Try.ntmps118
    go_wp2_with fail
    go_loopw [5] (fun i wr => i = .int .i64 0 ∧ wr = w) (fun _ _ => 0)
    case atStart => exact ⟨rfl, rfl⟩
    case round =>
      obtain ⟨rfl, hw⟩ := hrel
      subst hw
      go_wp2_with (at_builtin; first
        | refine wpList_append_own_none rfl _ _ 32 rfl wr.heap.size 9 i0 1 Try.underlying32 hi _ 0 [] rfl ⟨rfl, Or.inl ⟨rfl, rfl⟩⟩ rfl ?_
        | refine wpList_append_own _ rfl _ _ 32 rfl wr.heap.size 9 i0 _ 1 16 Try.underlying32 hi hz0 hz1 hz2 rfl (by decide) _ 0 [] rfl ⟨rfl, Or.inl ⟨rfl, rfl⟩⟩ ⟨wr.heap.size, 0, none⟩ 1 1 [.string s] rfl rfl ?d1 ?d2 ?d3 ?d4 ?d5 ?_)
      case d1 => exact World.news_of_block (cs := #[.string s]) (t := 9) (fr := (0, 0)) (World.alloc_heap_new wr _)
      case d2 => simp [Value.oneCell']
      case d3 => unfold maxLen; omega
      case d4 => omega
      case d5 => simp
      intro v2 w2 own2 g2 _
      have hb2 := Lib.hid (Below.trans (below_one wr _) (below_own (base := wr.heap.size) (v := .slice none 0 0) (n := 0) (xs := []) (e := 9) (size := 1) ⟨rfl, Or.inl ⟨rfl, rfl⟩⟩ g2 (by simp)))
      have hs2 := hb2.out.size
      clear g2
      go_wp2_with (at_builtin; refine wpList_append_own_none rfl _ _ 32 rfl wr.heap.size 9 i0 1 Try.underlying32 hi _ _ _ rfl own2 rfl ?_)
      have HF : Hid (NR w2 v2 (ins s.toList [])) := Lib.hid (fin_row (j := 0) (l := []) (n := 1) (base := wr.heap.size) rfl (by decide) own2)
      clear own2
      go_wp2_with fail
      go_ret
      exact ⟨v2, rfl, HF.out, hb2.out⟩
  · have HCL := Lib.hid hcl
    have hcap : (l.length : Int) ≤ (cap : Int) := by omega
    clear hcl
    go_enter Try.func118, Try.ntmps118
    go_wp2_with fail
    go_loopw [5] (fun i wr => WiRel w s.toList l i wr) (fun i _ => l.length - (intOf i).toNat)
    case atStart => exact ⟨0, rfl, by omega, rfl, rfl⟩
    case round =>
      obtain ⟨j, rfl, hj, hins, hw⟩ := hrel
      subst hw
      have HINS := Lib.hid hins
      clear hins
      have hj0 : (0 : Int) ≤ (j : Int) := Int.natCast_nonneg _
      have hjc : (j : Int) ≤ (l.length : Int) := by omega
      by_cases hlt : j < l.length
      · have hc0 := HCL.out j hlt
        have hj1 : (j : Int) < (l.length : Int) := by omega
        have ea : (⟨l[j].toArray⟩ : ByteArray).toList = l[j] := by rw [ByteArray.toList_eq]
        have HLT := Lib.hid hlt
        generalize (⟨l[j].toArray⟩ : ByteArray) = sa at hc0 ea
        by_cases hls : l[j] < s.toList
        · have q : Op.bytesLess sa.toList s.toList = true := by rw [ea]; exact bl_iff.2 hls
          have HN := Lib.hid (ins_step hlt hls HINS.out)
          clear ea hls
          go_wp2_with fail
          go_roundw
          case rel => exact ⟨j + 1, by go_num, by omega, HN.out, rfl⟩
          case measure => simp [intOf]; omega
        · have q : Op.bytesLess sa.toList s.toList = false := by
            rw [ea, Bool.eq_false_iff]; exact fun h => hls (bl_iff.1 h)
          by_cases heq : l[j] = s.toList
          · have q2 : (sa.toList == s.toList) = true := by rw [ea]; exact beq_iff_eq.2 heq
            have HN := Lib.hid (ins_eq hlt heq HINS.out)
            clear ea hls heq
            go_wp2_with fail
            go_ret
            exact ⟨_, rfl, by rw [HN.out]; exact HR.out, Below.refl _ _⟩
          · have q2 : (sa.toList == s.toList) = false := by rw [ea]; exact beq_eq_false_iff_ne.2 heq
            have HN := Lib.hid (ins_here hlt hls heq HINS.out)
            clear ea hls heq
            have hjcap : (j : Int) < (cap : Int) := by omega
            have hjcn : j < cap := by omega
            go_wp2_with (at_builtin; refine wpList_append_own _ rfl _ _ 32 rfl wr.heap.size 9 i0 _ 1 16 Try.underlying32 hi hz0 hz1 hz2 rfl (by decide) _ 0 [] rfl ⟨rfl, Or.inl ⟨rfl, rfl⟩⟩ ⟨g, 0, none⟩ j cap ((l.take j).map encStr) rfl (by simp; omega) ?c1 (one_str _) ?c3 ?c4 ?c5 ?_)
            case c1 => exact row_cells (fun k hk => by rw [Nat.zero_add, List.getElem_take]; exact HCL.out k (by rw [List.length_take] at hk; omega))
            case c3 => unfold maxLen; omega
            case c4 => omega
            case c5 => exact Nat.le_refl _
            intro v1 w1 own1 g1 _
            have hb1 := Lib.hid (below_own (base := wr.heap.size) (v := .slice none 0 0) (n := 0) (xs := []) (e := 9) (size := 1) ⟨rfl, Or.inl ⟨rfl, rfl⟩⟩ g1 (Nat.le_refl _))
            have hs1 := hb1.out.size
            go_wp2_with (at_builtin; refine wpList_append_own _ rfl _ _ 32 rfl wr.heap.size 9 i0 _ 1 16 Try.underlying32 hi hz0 hz1 hz2 rfl (by decide) _ _ _ rfl (own1.alloc _) ⟨w1.heap.size, 0, none⟩ 1 1 [.string s] rfl rfl ?d1 ?d2 ?d3 ?d4 ?d5 ?_)
            case d1 => exact World.news_of_block (cs := #[.string s]) (t := 9) (fr := (0, 0)) (World.alloc_heap_new w1 _)
            case d2 => simp [Value.oneCell']
            case d3 => unfold maxLen; omega
            case d4 => omega
            case d5 => simp; omega
            intro v2 w2 own2 g2 _
            have hb2 := Lib.hid (Below.trans hb1.out (Below.trans (Below.mono (below_one w1 _) (by omega)) (below_own (own1.alloc _) g2 (by simp; omega))))
            have hs2 := hb2.out.size
            clear g1 g2 own1
            go_wp2_with (at_builtin; refine wpList_append_own _ rfl _ _ 32 rfl wr.heap.size 9 i0 _ 1 16 Try.underlying32 hi hz0 hz1 hz2 rfl (by decide) _ _ _ rfl own2 ⟨g, j, none⟩ (l.length - j) (cap - j) ((l.drop j).map encStr) rfl ?e0 ?e1 (one_str _) ?e3 ?e4 ?e5 ?_)
            case e0 => simp <;> omega
            case e1 => exact row_cells (fun k hk => by rw [List.getElem_drop]; exact (hb2.out.cell (p := ⟨g, j + k, none⟩) hg).trans (HCL.out (j + k) (by rw [List.length_drop] at hk; omega)))
            case e3 => unfold maxLen; omega
            case e4 => omega
            case e5 => omega
            intro v3 w3 own3 g3 _
            have hb3 := Lib.hid (Below.trans hb2.out (below_own own2 g3 (by omega)))
            have HF : Hid (NR w3 v3 (ins s.toList l)) := Lib.hid (fin_row HN.out (by omega) own3)
            clear own3 own2 g3
            go_wp2_with fail
            go_ret
            exact ⟨v3, rfl, HF.out, hb3.out⟩
      · have HN := Lib.hid (ins_end hlt HINS.out)
        by_cases hjcn : j < cap
        · have hjcap : (j : Int) < (cap : Int) := by omega
          go_wp2_with (at_builtin; refine wpList_append_own _ rfl _ _ 32 rfl wr.heap.size 9 i0 _ 1 16 Try.underlying32 hi hz0 hz1 hz2 rfl (by decide) _ 0 [] rfl ⟨rfl, Or.inl ⟨rfl, rfl⟩⟩ ⟨g, 0, none⟩ j cap ((l.take j).map encStr) rfl (by simp; omega) ?c1 (one_str _) ?c3 ?c4 ?c5 ?_)
          case c1 => exact row_cells (fun k hk => by rw [Nat.zero_add, List.getElem_take]; exact HCL.out k (by rw [List.length_take] at hk; omega))
          case c3 => unfold maxLen; omega
          case c4 => omega
          case c5 => exact Nat.le_refl _
          intro v1 w1 own1 g1 _
          have hb1 := Lib.hid (below_own (base := wr.heap.size) (v := .slice none 0 0) (n := 0) (xs := []) (e := 9) (size := 1) ⟨rfl, Or.inl ⟨rfl, rfl⟩⟩ g1 (Nat.le_refl _))
          have hs1 := hb1.out.size
          go_wp2_with (at_builtin; refine wpList_append_own _ rfl _ _ 32 rfl wr.heap.size 9 i0 _ 1 16 Try.underlying32 hi hz0 hz1 hz2 rfl (by decide) _ _ _ rfl (own1.alloc _) ⟨w1.heap.size, 0, none⟩ 1 1 [.string s] rfl rfl ?d1 ?d2 ?d3 ?d4 ?d5 ?_)
          case d1 => exact World.news_of_block (cs := #[.string s]) (t := 9) (fr := (0, 0)) (World.alloc_heap_new w1 _)
          case d2 => simp [Value.oneCell']
          case d3 => unfold maxLen; omega
          case d4 => omega
          case d5 => simp; omega
          intro v2 w2 own2 g2 _
          have hb2 := Lib.hid (Below.trans hb1.out (Below.trans (Below.mono (below_one w1 _) (by omega)) (below_own (own1.alloc _) g2 (by simp; omega))))
          have hs2 := hb2.out.size
          clear g1 g2 own1
          go_wp2_with (at_builtin; refine wpList_append_own _ rfl _ _ 32 rfl wr.heap.size 9 i0 _ 1 16 Try.underlying32 hi hz0 hz1 hz2 rfl (by decide) _ _ _ rfl own2 ⟨g, j, none⟩ (l.length - j) (cap - j) ((l.drop j).map encStr) rfl ?e0 ?e1 (one_str _) ?e3 ?e4 ?e5 ?_)
          case e0 => simp <;> omega
          case e1 => exact row_cells (fun k hk => by rw [List.getElem_drop]; exact (hb2.out.cell (p := ⟨g, j + k, none⟩) hg).trans (HCL.out (j + k) (by rw [List.length_drop] at hk; omega)))
          case e3 => unfold maxLen; omega
          case e4 => omega
          case e5 => omega
          intro v3 w3 own3 g3 _
          have hb3 := Lib.hid (Below.trans hb2.out (below_own own2 g3 (by omega)))
          have HF : Hid (NR w3 v3 (ins s.toList l)) := Lib.hid (fin_row HN.out (by omega) own3)
          clear own3 own2 g3
          go_wp2_with fail
          go_ret
          exact ⟨v3, rfl, HF.out, hb3.out⟩
        · have hjcap : (cap : Int) = (j : Int) := by omega
          go_wp2_with (at_builtin; refine wpList_append_own _ rfl _ _ 32 rfl wr.heap.size 9 i0 _ 1 16 Try.underlying32 hi hz0 hz1 hz2 rfl (by decide) _ 0 [] rfl ⟨rfl, Or.inl ⟨rfl, rfl⟩⟩ ⟨g, 0, none⟩ j cap ((l.take j).map encStr) rfl (by simp; omega) ?c1 (one_str _) ?c3 ?c4 ?c5 ?_)
          case c1 => exact row_cells (fun k hk => by rw [Nat.zero_add, List.getElem_take]; exact HCL.out k (by rw [List.length_take] at hk; omega))
          case c3 => unfold maxLen; omega
          case c4 => omega
          case c5 => exact Nat.le_refl _
          intro v1 w1 own1 g1 _
          have hb1 := Lib.hid (below_own (base := wr.heap.size) (v := .slice none 0 0) (n := 0) (xs := []) (e := 9) (size := 1) ⟨rfl, Or.inl ⟨rfl, rfl⟩⟩ g1 (Nat.le_refl _))
          have hs1 := hb1.out.size
          go_wp2_with (at_builtin; refine wpList_append_own _ rfl _ _ 32 rfl wr.heap.size 9 i0 _ 1 16 Try.underlying32 hi hz0 hz1 hz2 rfl (by decide) _ _ _ rfl (own1.alloc _) ⟨w1.heap.size, 0, none⟩ 1 1 [.string s] rfl rfl ?d1 ?d2 ?d3 ?d4 ?d5 ?_)
          case d1 => exact World.news_of_block (cs := #[.string s]) (t := 9) (fr := (0, 0)) (World.alloc_heap_new w1 _)
          case d2 => simp [Value.oneCell']
          case d3 => unfold maxLen; omega
          case d4 => omega
          case d5 => simp; omega
          intro v2 w2 own2 g2 _
          have hb2 := Lib.hid (Below.trans hb1.out (Below.trans (Below.mono (below_one w1 _) (by omega)) (below_own (own1.alloc _) g2 (by simp; omega))))
          have hs2 := hb2.out.size
          clear g1 g2 own1
          go_wp2_with (at_builtin; refine wpList_append_own _ rfl _ _ 32 rfl wr.heap.size 9 i0 _ 1 16 Try.underlying32 hi hz0 hz1 hz2 rfl (by decide) _ _ _ rfl own2 ⟨g, 0, none⟩ (l.length - j) (cap - j) ((l.drop j).map encStr) rfl ?e0 ?e1 (one_str _) ?e3 ?e4 ?e5 ?_)
          case e0 => simp <;> omega
          case e1 => exact fun k u hk => by rw [List.drop_eq_nil_of_le (by omega)] at hk; simp at hk
          case e3 => unfold maxLen; omega
          case e4 => omega
          case e5 => omega
          intro v3 w3 own3 g3 _
          have hb3 := Lib.hid (Below.trans hb2.out (below_own own2 g3 (by omega)))
          have HF : Hid (NR w3 v3 (ins s.toList l)) := Lib.hid (fin_row HN.out (by omega) own3)
          clear own3 own2 g3
          go_wp2_with fail
          go_ret
          exact ⟨v3, rfl, HF.out, hb3.out⟩
end Go.Proofs.Ytijdlihodpodjaa
