/-
  battenref03.names, Names: the names of a term, rising, each once.
-/
import Derived.Test.YtijdlihodpodjaaTrmRefNm
import Derived.Test.YtijdlihodpodjaaTrmNamesMath
namespace Go.Proofs.Ytijdlihodpodjaa
open Go.RowKit Go.Shelf Go.Maps Go.Sort Lvl Trm

namespace Trm
def addN (ns l : List (List UInt8)) : List (List UInt8) := ns.foldl (fun l x => ins x l) l
theorem addN_len : ∀ ns l : List (List UInt8), (addN ns l).length ≤ l.length + ns.length
  | [], l => by simp [addN]
  | a :: r, l => by
    have h1 := addN_len r (ins a l)
    have h2 := ins_len a l
    show (addN r (ins a l)).length ≤ _
    simp only [List.length_cons]
    omega
theorem addN_mem {x : List UInt8} : ∀ {ns l : List (List UInt8)}, x ∈ addN ns l ↔ x ∈ ns ∨ x ∈ l
  | [], l => by simp [addN]
  | a :: r, l => by
    show x ∈ addN r (ins a l) ↔ _
    rw [addN_mem (ns := r), mem_ins, List.mem_cons]
    exact ⟨fun h => by
      rcases h with h | h | h
      · exact Or.inl (Or.inr h)
      · exact Or.inl (Or.inl h)
      · exact Or.inr h, fun h => by
      rcases h with (h | h) | h
      · exact Or.inr (Or.inl h)
      · exact Or.inl h
      · exact Or.inr (Or.inr h)⟩
theorem addN_rises : ∀ {ns l : List (List UInt8)}, Rises l → Rises (addN ns l)
  | [], _, h => h
  | _ :: r, _, h => addN_rises (ns := r) (rises_ins h)
theorem addN_append (a b l : List (List UInt8)) : addN (a ++ b) l = addN b (addN a l) := by simp [addN, List.foldl_append]
theorem nms_few {t : Tm} (hm : t.may = true) : t.nms.length ≤ 65536 := by
  have h1 := nms_size t
  have h3 := count_ge t
  unfold Tm.count at h3
  rw [if_pos hm] at h3
  omega
def NmRel (w : World) (o : Obj) (ts : List Tm) (G : List (List UInt8)) (v i : Value) (wr : World) : Prop :=
  ∃ (j : Nat) (l : List (List UInt8)), i = .int .i64 j ∧ j ≤ ts.length ∧ NR wr v l ∧ l.length + (nmsL (ts.drop j)).length ≤ 65536 ∧ addN (nmsL (ts.drop j)) l = G ∧ Kept w wr o
theorem nmsL_drop {ts : List Tm} {k : Nat} (h : k < ts.length) : nmsL (ts.drop k) = ts[k].nms ++ nmsL (ts.drop (k + 1)) := by
  rw [drop_get h, nmsL]
end Trm

set_option maxRecDepth 100000 in
set_option maxHeartbeats 4000000 in
theorem rnames_any (t : Tm) : ∀ (h : Hd) (v : Value) (l : List (List UInt8)) (w : World), NR w v l → l.length + t.nms.length ≤ 65536 → t.In w.heap.size w h →
    Calls Try.prog 81 #[v, t.val h] w (WithPost (addN t.nms l) w) := by
  induction t using Tm.ind with
  | h t ih =>
    intro h v l w hr hn hin
    have hfit := hin.fit
    have hts := hfit.ts
    clear hfit
    have HIN := Lib.hid hin
    have HIH := Lib.hid ih
    have HR := Lib.hid (NR.carry hr (below_one w (t.box h)))
    have HN := Lib.hid hn
    obtain ⟨G, hG⟩ : ∃ G, G = addN t.nms l := ⟨_, rfl⟩
    rw [← hG]
    have HG := Lib.hid hG
    clear hin ih hr hn hG
    unfold Tm.val Tm.vals
    by_cases hs : t.s.size = 0
    · have q : t.s.toList.isEmpty = true := by rw [Lib.toList_data, List.isEmpty_iff]; exact List.eq_nil_of_length_eq_zero hs
      have e1 : t.nms = nmsL t.ts := by rw [Tm.nms_eq]; unfold oneN; rw [if_pos hs]; rfl
      have HG2 : Hid (addN (nmsL (t.ts.drop 0)) l = G) := Lib.hid (by rw [HG.out, e1]; rfl)
      have HN2 : Hid (l.length + (nmsL (t.ts.drop 0)).length ≤ 65536) := Lib.hid (by have := HN.out; rw [e1] at this; exact this)
      clear e1 hs HG HN
      go_enter Try.func81, Try.ntmps81
      go_wp2_with fail
      go_loopw [0, 5] (fun v i wr => NmRel w (t.box h) t.ts G v i wr) (fun _ i _ => t.ts.length - (intOf i).toNat)
      case atStart => exact ⟨0, l, rfl, by omega, HR.out, HN2.out, HG2.out, Kept.start _ _⟩
      case round =>
        obtain ⟨k, lk, rfl, hk, hrk, hnk, hGk, hkept⟩ := hrel
        have HK := Lib.hid hkept
        have HGk := Lib.hid hGk
        have HRk := Lib.hid hrk
        have HNk := Lib.hid hnk
        clear hkept hGk hrk hnk
        obtain ⟨c0, c1, c2, c3, c4⟩ := Tm.cells HK.out.box
        by_cases hlt : k < t.ts.length
        · obtain ⟨b, off, hao, hat⟩ := HIN.out.kid k hlt
          obtain ⟨hb, hd', ⟨k0, k1, k2, k3, k4⟩, hin'⟩ := hat.below HK.out.bel
          rw [hao] at c4
          have HX := Lib.hid (HIH.out _ (List.getElem_mem hlt) hd')
          have HI := Lib.hid (Tm.In.mono HK.out.bel.size _ _ hin')
          have HG3 : Hid (addN (nmsL (t.ts.drop (k + 1))) (addN t.ts[k].nms lk) = G) := Lib.hid (by rw [← addN_append, ← nmsL_drop hlt]; exact HGk.out)
          have HN3 : Hid (lk.length + t.ts[k].nms.length ≤ 65536 ∧ (addN t.ts[k].nms lk).length + (nmsL (t.ts.drop (k + 1))).length ≤ 65536) := Lib.hid (by
            have h1 := HNk.out
            rw [nmsL_drop hlt, List.length_append] at h1
            have h2 := addN_len t.ts[k].nms lk
            constructor <;> omega)
          clear hat hin' hao HGk HNk
          generalize t.ts[k] = x at k0 k1 k2 k3 k4 HX HI HG3 HN3
          unfold Tm.val Tm.vals at HX
          generalize x.nms = xn at HX HG3 HN3
          go_wp2_with fail
          refine (HX.out _ _ _ HRk.out HN3.out.1 HI.out).mono ?_
          rintro e w5 ⟨v5, rfl, hr5, b5⟩
          have HR5 := Lib.hid hr5
          have HK5 := Lib.hid (HK.out.step b5)
          clear b5 hr5 k0 k1 k2 k3 k4
          go_wp2_with fail
          go_roundw
          case rel => exact ⟨k + 1, _, by go_num, by omega, HR5.out, HN3.out.2, HG3.out, HK5.out⟩
          case measure => simp [intOf]; omega
        · have HE : Hid (lk = G) := by
            have := HGk.out
            rw [List.drop_eq_nil_of_le (by omega), nmsL] at this
            exact this
          go_wp2_with fail
          go_ret
          exact ⟨_, rfl, by rw [← HE.out]; exact HRk.out, HK.out.bel⟩
    · have q : t.s.toList.isEmpty = false := by
        rw [Lib.toList_data, Bool.eq_false_iff, Ne, List.isEmpty_iff]
        exact fun hh => hs (show t.s.data.toList.length = 0 by rw [hh]; rfl)
      have e1 : t.nms = t.s.toList :: nmsL t.ts := by rw [Tm.nms_eq]; unfold oneN; rw [if_neg hs, ← Lib.toList_data]; rfl
      have HG2 : Hid (addN (nmsL (t.ts.drop 0)) (ins t.s.toList l) = G) := Lib.hid (by rw [HG.out, e1]; rfl)
      have HN2 : Hid ((ins t.s.toList l).length + (nmsL (t.ts.drop 0)).length ≤ 65536) := Lib.hid (by
        have h1 := HN.out
        have h2 := ins_len t.s.toList l
        rw [e1, List.length_cons] at h1
        show _ + (nmsL t.ts).length ≤ _
        omega)
      have HL : Hid (l.length ≤ 65536) := Lib.hid (by have := HN.out; omega)
      have HKS := Lib.hid (Kept.start w (t.box h))
      obtain ⟨c0, c1, c2, c3, c4⟩ := Tm.cells HKS.out.box
      clear e1 hs HG HN
      go_enter Try.func81, Try.ntmps81
      go_wp2_with fail
      refine (with_any l t.s v _ HR.out HL.out).mono ?_
      rintro e w1 ⟨v1, rfl, hr1, b1⟩
      have HR1 := Lib.hid hr1
      have HK1 := Lib.hid (HKS.out.step b1)
      clear b1 c0 c1 c2 c3 c4 hr1 HKS HR
      obtain ⟨c0, c1, c2, c3, c4⟩ := Tm.cells HK1.out.box
      go_wp2_with fail
      clear c0 c1 c2 c3 c4
      go_loopw [0, 5] (fun v i wr => NmRel w (t.box h) t.ts G v i wr) (fun _ i _ => t.ts.length - (intOf i).toNat)
      case atStart => exact ⟨0, _, rfl, by omega, HR1.out, HN2.out, HG2.out, HK1.out⟩
      case round =>
        obtain ⟨k, lk, rfl, hk, hrk, hnk, hGk, hkept⟩ := hrel
        have HK := Lib.hid hkept
        have HGk := Lib.hid hGk
        have HRk := Lib.hid hrk
        have HNk := Lib.hid hnk
        clear hkept hGk hrk hnk
        obtain ⟨c0, c1, c2, c3, c4⟩ := Tm.cells HK.out.box
        by_cases hlt : k < t.ts.length
        · obtain ⟨b, off, hao, hat⟩ := HIN.out.kid k hlt
          obtain ⟨hb, hd', ⟨k0, k1, k2, k3, k4⟩, hin'⟩ := hat.below HK.out.bel
          rw [hao] at c4
          have HX := Lib.hid (HIH.out _ (List.getElem_mem hlt) hd')
          have HI := Lib.hid (Tm.In.mono HK.out.bel.size _ _ hin')
          have HG3 : Hid (addN (nmsL (t.ts.drop (k + 1))) (addN t.ts[k].nms lk) = G) := Lib.hid (by rw [← addN_append, ← nmsL_drop hlt]; exact HGk.out)
          have HN3 : Hid (lk.length + t.ts[k].nms.length ≤ 65536 ∧ (addN t.ts[k].nms lk).length + (nmsL (t.ts.drop (k + 1))).length ≤ 65536) := Lib.hid (by
            have h1 := HNk.out
            rw [nmsL_drop hlt, List.length_append] at h1
            have h2 := addN_len t.ts[k].nms lk
            constructor <;> omega)
          clear hat hin' hao HGk HNk
          generalize t.ts[k] = x at k0 k1 k2 k3 k4 HX HI HG3 HN3
          unfold Tm.val Tm.vals at HX
          generalize x.nms = xn at HX HG3 HN3
          go_wp2_with fail
          refine (HX.out _ _ _ HRk.out HN3.out.1 HI.out).mono ?_
          rintro e w5 ⟨v5, rfl, hr5, b5⟩
          have HR5 := Lib.hid hr5
          have HK5 := Lib.hid (HK.out.step b5)
          clear b5 hr5 k0 k1 k2 k3 k4
          go_wp2_with fail
          go_roundw
          case rel => exact ⟨k + 1, _, by go_num, by omega, HR5.out, HN3.out.2, HG3.out, HK5.out⟩
          case measure => simp [intOf]; omega
        · have HE : Hid (lk = G) := by
            have := HGk.out
            rw [List.drop_eq_nil_of_le (by omega), nmsL] at this
            exact this
          go_wp2_with fail
          go_ret
          exact ⟨_, rfl, by rw [← HE.out]; exact HRk.out, HK.out.bel⟩

set_option maxRecDepth 100000 in
theorem RefNames_any (t : Tm) (h : Hd) (w : World) (hmay : t.may = true) (hin : t.In w.heap.size w h) :
    Calls Try.prog 27 #[t.val h] w (WithPost (addN t.nms []) w) := by
  have hfew : ([] : List (List UInt8)).length + t.nms.length ≤ 65536 := by have := nms_few hmay; simpa using this
  have HX := Lib.hid (rnames_any t h (.slice none 0 0) [] _ (Or.inl ⟨rfl, rfl⟩) hfew (carry hin (below_one w (t.box h))))
  generalize addN t.nms [] = R at HX ⊢
  unfold Tm.val at HX ⊢
  unfold Tm.box at HX
  dsimp only [Tm.vals] at HX ⊢
  clear hin hfew
  go_enter Try.func27, Try.ntmps27
  go_wp2_with fail
  refine HX.out.mono ?_
  rintro e w1 ⟨v1, rfl, hr1, b1⟩
  have HB := Lib.hid (Trm.go (below_one w _) b1)
  have HR := Lib.hid hr1
  clear b1 hr1
  go_wp2_with fail
  go_ret
  exact ⟨v1, rfl, HR.out, HB.out⟩
end Go.Proofs.Ytijdlihodpodjaa
