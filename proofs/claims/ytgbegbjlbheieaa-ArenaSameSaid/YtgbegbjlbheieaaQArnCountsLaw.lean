/-
  battenlaw05.ArenaCounts: the walk.
-/
import Derived.Test.YtgbegbjlbheieaaQArnWorks
import Derived.Test.YtgbegbjlbheieaaQArnVast
import Derived.Test.YtgbegbjlbheieaaQArnWithin
import Derived.Test.YtgbegbjlbheieaaQArnGet2
namespace Go.Proofs.Ytgbegbjlbheieaa
open Go.RowKit Go.Shelf Go.Maps Lvl Trm Arn

namespace Arn
noncomputable def stepL (L : List Tm) (t : Tm) : List Tm := if t.may = true then Tm.ins t L else L
noncomputable def puts (ts : List Tm) : List Tm := ts.foldl stepL []
theorem puts_take {l : List Tm} {k : Nat} (h : k < l.length) : puts (l.take (k + 1)) = stepL (puts (l.take k)) l[k] := by
  unfold puts
  rw [List.take_succ_eq_append_getElem h, List.foldl_append]
  rfl
theorem foldl_len (ts : List Tm) : ∀ L : List Tm, ((ts.foldl stepL L).length : Int) ≤ L.length + sizeL ts := by
  induction ts with
  | nil => intro L; rw [List.foldl_nil, sizeL]; omega
  | cons t r ih =>
    intro L
    rw [List.foldl_cons, sizeL]
    have h1 := ih (stepL L t)
    have h2 : ((stepL L t).length : Int) ≤ L.length + t.size := by
      unfold stepL
      split
      · exact ins_len t L
      · have := t.size_pos; omega
    omega
theorem puts_len (l : List Tm) (k : Nat) : ((puts (l.take k)).length : Int) ≤ sizeL l := by
  have h1 := foldl_len (l.take k) []
  have h2 : sizeL (l.take k) ≤ sizeL l := by
    have key : ∀ (a b : List Tm), sizeL (a ++ b) = sizeL a + sizeL b := by
      intro a b
      induction a with
      | nil => rw [List.nil_append, sizeL]; omega
      | cons x r ih => rw [List.cons_append, sizeL, sizeL, ih]; omega
    have h3 := key (l.take k) (l.drop k)
    rw [List.take_append_drop] at h3
    have := sizeL_ge (l.drop k)
    omega
  unfold puts
  simp at h1
  omega
/-- What a call has made: an arena, and a slice of terms that were there, none of its blocks. -/
structure CS (w W : World) (A : Nat) (L : List Tm) (v : Value) (ps : List (Tm × Hd)) (va : Value) (mo : Option Nat) : Prop where
  ar : Ar W A L va mo
  high : ∀ q, own A va mo q → w.heap.size ≤ q
  row : WRow w.heap.size w.heap.size W L v ps
  apart : ∀ q, v.ownBlock = some q → ¬ own A va mo q
  bel : Below w.heap.size w W
theorem CS.below {w W W' : World} {A : Nat} {L : List Tm} {v : Value} {ps : List (Tm × Hd)} {va : Value} {mo : Option Nat} (h : CS w W A L v ps va mo) (b : Below W.heap.size W W') : CS w W' A L v ps va mo :=
  ⟨h.ar.below b (Nat.le_refl _), h.high, h.row.below b, h.apart, Trm.go h.bel b⟩
theorem CS.slice {w W : World} {A : Nat} {L : List Tm} {v : Value} {ps : List (Tm × Hd)} {va : Value} {mo : Option Nat} (h : CS w W A L v ps va mo) : ∃ ao cp, v = .slice ao L.length cp := by
  rcases h.row.row.2 with ⟨hv, h0⟩ | ⟨g, cap, cur, hv, _⟩
  · exact ⟨none, 0, by rw [hv, ← h.row.len, h0]⟩
  · exact ⟨_, cap, by rw [hv, h.row.len]⟩
/-- Behind a Put the slice is as it was, of the terms from before. -/
theorem CS.put {w W W1 : World} {A : Nat} {L L' : List Tm} {v : Value} {ps : List (Tm × Hd)} {va : Value} {mo : Option Nat} (h : CS w W A L v ps va mo) (m : Moved A va mo L' W W1) :
    ∃ va' mo', Ar W1 A L' va' mo' ∧ (∀ q, own A va' mo' q → w.heap.size ≤ q) ∧ WRow w.heap.size w.heap.size W1 L v ps ∧ (∀ q, v.ownBlock = some q → ¬ own A va' mo' q) ∧ Below w.heap.size w W1 ∧ Below w.heap.size W W1 := by
  obtain ⟨v', mo', har, ho, hr⟩ := m
  have hs := h.bel.size
  have hb1 : Below w.heap.size W W1 := hr.below (fun q hq => h.high q hq) hs
  refine ⟨v', mo', har, fun q hq => ?_, h.row.ran hb1 fun q hq => hr.block q (h.row.row.lt q hq).2 (h.apart q hq), fun q hq h2 => ?_, h.bel.trans hb1, hb1⟩
  · rcases ho q hq with h1 | h1
    · exact h.high q h1
    · omega
  · rcases ho q h2 with h1 | h1
    · exact h.apart q hq h1
    · have := (h.row.row.lt q hq).2; omega
theorem CS.again {w W W1 : World} {A : Nat} {L : List Tm} {v : Value} {ps : List (Tm × Hd)} {va : Value} {mo : Option Nat} (h : CS w W A L v ps va mo) (m : Moved A va mo L W W1) : ∃ va' mo', CS w W1 A L v ps va' mo' := by
  obtain ⟨va', mo', h1, h2, h3, h4, h5, _⟩ := h.put m
  exact ⟨va', mo', ⟨h1, h2, h3, h4, h5⟩⟩
/-- .. and behind within it has the terms of the arena. -/
theorem CS.within {w W1 W2 : World} {A : Nat} {L L' : List Tm} {v v' : Value} {ps ps' : List (Tm × Hd)} {va : Value} {mo : Option Nat} (har : Ar W1 A L' va mo) (hh : ∀ q, own A va mo q → w.heap.size ≤ q) (hrow : WRow w.heap.size w.heap.size W1 L v ps) (hap : ∀ q, v.ownBlock = some q → ¬ own A va mo q) (hb : Below w.heap.size w W1)
    (hrow' : WRow w.heap.size w.heap.size W2 L' v' ps') (hv : ∀ q, v'.ownBlock = some q → v.ownBlock = some q ∨ W1.heap.size ≤ q) (hr : RanS (fun q => v.ownBlock = some q) W1 W2) : CS w W2 A L' v' ps' va mo where
  ar := har.step hr fun q hq h2 => hap q h2 hq
  high := hh
  row := hrow'
  apart q hq h2 := by
    rcases hv q hq with h1 | h1
    · exact hap q h1 h2
    · have := har.lt q h2; omega
  bel := hb.trans (ran_low hrow hr)
theorem tcells_block5 {w w' : World} {b o : Nat} {t : Tm} {h : Hd} (c : TCells w b o t h) (e : w'.heap[b]? = w.heap[b]?) : TCells w' b o t h := by
  have k : ∀ i, w'.cell? ⟨b, i, none⟩ = w.cell? ⟨b, i, none⟩ := fun i => World.cell?_of_block e
  exact ⟨(k _).trans c.c0, (k _).trans c.c1, (k _).trans c.c2, (k _).trans c.c3, (k _).trans c.c4⟩
def CRel1 (w : World) (A : Nat) (l : List Tm) (v i : Value) (wr : World) : Prop := ∃ (k : Nat) (ps : List (Tm × Hd)) (va : Value) (mo : Option Nat), i = .int .i64 k ∧ k ≤ l.length ∧ CS w wr A (puts (l.take k)) v ps va mo
def CRel2 (w : World) (A : Nat) (M : List Tm) (v : Value) (ps : List (Tm × Hd)) (i : Value) (wr : World) : Prop := ∃ (k : Nat) (va : Value) (mo : Option Nat), i = .int .i64 k ∧ k ≤ M.length ∧ CS w wr A M v ps va mo
end Arn

set_option maxRecDepth 100000 in
set_option maxHeartbeats 16000000 in
theorem law_arena_counts (l : List Tm) (lo : Option Addr) (lc : Nat) (w : World) (hin : RowIn w.heap.size w lo 0 l) :
    Calls Try.prog 6 #[.slice lo l.length lc] w fun e w' => e = .returned (.bool true) ∧ Below w.heap.size w w' := by
  have HIN := Lib.hid hin
  have HV := Lib.hid (Vast_any l lo lc 20 300 w hin (by decide))
  obtain ⟨V, hV⟩ : ∃ V, V = vast l 20 300 := ⟨_, rfl⟩
  rw [← hV] at HV
  have HNV := Lib.hid hV
  clear hV hin
  go_enter Try.func6, Try.ntmps6
  go_wp2_with fail
  refine HV.out.mono ?_
  rintro e w1 ⟨rfl, b1⟩
  have H1 := Lib.hid b1
  clear b1
  cases V
  · have hsz : sizeL l ≤ 300 ∧ l.length ≤ 20 := by
      have h1 := HNV.out
      unfold vast at h1
      have h2 := h1.symm
      simp only [Bool.or_eq_false_iff, decide_eq_false_iff_not] at h2
      omega
    have HSZ := Lib.hid hsz
    have hl20 := hsz.2
    clear hsz HV HNV
    go_wp2_with fail
    refine (New_any _).mono ?_
    rintro e w2 ⟨rfl, hw2⟩
    obtain ⟨A, hA⟩ : ∃ A, A = w1.heap.size := ⟨_, rfl⟩
    have HC2 : Hid (CS w w2 A [] (.slice none 0 0) [] (.slice none 0 0) none) := Lib.hid (by
      have hs := H1.out.size
      rw [hw2, hA]
      refine ⟨made w1, ?_, ⟨World.ownsRow_nil _ _ _ _, rfl, fun p hp => by simp at hp, Nat.le_refl _, by rw [World.size_alloc]; omega⟩, fun q hq => by simp [Value.ownBlock] at hq, Trm.go H1.out (below_one _ _)⟩
      rintro q (rfl | hq | hq)
      · exact hs
      · simp [Value.ownBlock] at hq
      · cases hq)
    rw [← hA]
    clear hw2 hA H1
    go_wp2_with fail
    go_loopw [4, 5] (fun v i wr => CRel1 w A l v i wr) (fun _ i _ => l.length - (intOf i).toNat)
    case atStart => exact ⟨0, [], _, _, rfl, by omega, HC2.out⟩
    case round =>
      obtain ⟨k, ps, va, mo, rfl, hk, hcs⟩ := hrel
      have HCS := Lib.hid hcs
      clear hcs
      by_cases hlt : k < l.length
      · obtain ⟨b, off, hlo, hbB, hd, hc, hi⟩ := (Trm.RowIn.below HIN.out HCS.out.bel).place k hlt
        rw [Nat.zero_add] at hc
        have HI := Lib.hid hi
        have HCL := Lib.hid hc
        have HFI := Lib.hid (FirmS.of hi (fun q hq => HCS.out.high q hq) HCS.out.bel.size)
        have hplen := puts_len l k
        have HPUT := Lib.hid (Put_any HCS.out.ar l[k] hd HFI.out (by have := HSZ.out; omega))
        obtain ⟨k0, k1, k2, k3, k4⟩ := hc
        subst hlo
        have HB := Lib.hid hbB
        have HPT := Lib.hid (puts_take hlt)
        have HPL := Lib.hid hplen
        obtain ⟨t, ht⟩ : ∃ t, t = l[k] := ⟨_, rfl⟩
        have htz : t.size ≤ 300 := by
          rw [ht]
          have := sizeL_mem (List.getElem_mem hlt)
          have := HSZ.out
          omega
        rw [← ht] at k0 k1 k2 k3 k4 HI HCL HPUT HPT
        clear ht hi hbB hplen HFI
        unfold Tm.val Tm.vals at HPUT
        go_wp2_with fail
        refine HPUT.out.mono ?_
        rintro e w3 ⟨hy, hn⟩
        clear k0 k1 k2 k3 k4 HPUT
        cases hm : t.may
        · obtain ⟨rfl, m3⟩ := hn hm
          obtain ⟨va3, mo3, h3⟩ := HCS.out.again m3
          have HC3 := Lib.hid (show CS w w3 A (puts (l.take (k + 1))) u4 ps va3 mo3 from by
            rw [HPT.out]
            unfold stepL
            rw [if_neg (by rw [hm]; decide)]
            exact h3)
          clear hy hn m3 h3
          obtain ⟨ao4, cp4, hu4⟩ := HC3.out.slice
          have HPL2 := Lib.hid (puts_len l (k + 1))
          obtain ⟨M, hM⟩ : ∃ M, M = puts (l.take (k + 1)) := ⟨_, rfl⟩
          have HM := Lib.hid hM
          rw [← hM] at hu4 HC3 HPL2
          subst hu4
          obtain ⟨n, hn⟩ : ∃ n, n = M.length := ⟨_, rfl⟩
          have HLN := Lib.hid (hn ▸ Len_any HC3.out.ar)
          have hni : (n : Int) ≤ 300 := by have := HPL2.out; have := HSZ.out; omega
          rw [← hn]
          have HN := Lib.hid hn
          clear hM hn
          go_wp2_with fail
          refine HLN.out.mono ?_
          rintro e w6 ⟨rfl, b6⟩
          have HC6 := Lib.hid (show CRel1 w A l (.slice ao4 n cp4) (.int .i64 ((k + 1 : Nat) : Int)) w6 from ⟨k + 1, _, _, _, rfl, hlt, by rw [← HM.out, HN.out]; exact HC3.out.below b6⟩)
          have hwk : IntKind.i64.wrap ((k : Int) + 1) = ((k + 1 : Nat) : Int) := by rw [IntWalk.i64_in _ (by omega)]; omega
          clear b6 HLN HC3
          go_wp2_with fail
          go_roundw
          case rel => exact HC6.out
          case measure => simp [intOf]; omega
        · obtain ⟨rfl, m3⟩ := hy hm
          obtain ⟨va3, mo3, har3, hh3, hrow3, hap3, hb3, hbw3⟩ := HCS.out.put m3
          have HW := Lib.hid (within5_any w.heap.size w.heap.size t w3 _ u4 ps hd hrow3 (Tm.In.below hbw3 _ _ HI.out) (by have := HPL.out; have := HSZ.out; omega))
          have HX := Lib.hid (And.intro har3 (And.intro hh3 (And.intro hrow3 (And.intro hap3 hb3))))
          obtain ⟨k0, k1, k2, k3, k4⟩ := HCL.out.below hbw3 HB.out
          have HMM := Lib.hid hm
          unfold Tm.val Tm.vals at HW
          clear hy hn m3 hm har3 hh3 hrow3 hap3 hb3 hbw3
          go_wp2_with fail
          refine HW.out.mono ?_
          rintro e w5 ⟨v5, ps5, rfl, hw5, hv5, hr5⟩
          have HCX := Lib.hid (show CS w w5 A (puts (l.take (k + 1))) v5 ps5 va3 mo3 from by
            have e1 : puts (l.take (k + 1)) = Tm.ins t (puts (l.take k)) := by
              rw [HPT.out]
              unfold stepL
              rw [if_pos HMM.out]
            rw [e1]
            exact CS.within HX.out.1 HX.out.2.1 HX.out.2.2.1 HX.out.2.2.2.1 HX.out.2.2.2.2 hw5 hv5 hr5)
          clear hw5 hv5 hr5 HW HX k0 k1 k2 k3 k4
          obtain ⟨ao4, cp4, hu4⟩ := HCX.out.slice
          have HPL2 := Lib.hid (puts_len l (k + 1))
          obtain ⟨M, hM⟩ : ∃ M, M = puts (l.take (k + 1)) := ⟨_, rfl⟩
          have HM := Lib.hid hM
          rw [← hM] at hu4 HCX HPL2
          subst hu4
          obtain ⟨n, hn⟩ : ∃ n, n = M.length := ⟨_, rfl⟩
          have HLN := Lib.hid (hn ▸ Len_any HCX.out.ar)
          have hni : (n : Int) ≤ 300 := by have := HPL2.out; have := HSZ.out; omega
          rw [← hn]
          have HN := Lib.hid hn
          clear hM hn
          go_wp2_with fail
          refine HLN.out.mono ?_
          rintro e w6 ⟨rfl, b6⟩
          have HC6 := Lib.hid (show CRel1 w A l (.slice ao4 n cp4) (.int .i64 ((k + 1 : Nat) : Int)) w6 from ⟨k + 1, _, _, _, rfl, hlt, by rw [← HM.out, HN.out]; exact HCX.out.below b6⟩)
          have hwk : IntKind.i64.wrap ((k : Int) + 1) = ((k + 1 : Nat) : Int) := by rw [IntWalk.i64_in _ (by omega)]; omega
          clear b6 HLN HCX
          go_wp2_with fail
          go_roundw
          case rel => exact HC6.out
          case measure => simp [intOf]; omega
      · obtain ⟨M, hM⟩ : ∃ M, M = puts (l.take k) := ⟨_, rfl⟩
        have hplen := puts_len l k
        rw [← hM] at HCS hplen
        have hni : (M.length : Int) ≤ 300 := by have := HSZ.out; omega
        obtain ⟨ao4, cp4, hu4⟩ := HCS.out.slice
        subst hu4
        clear hM hplen
        go_wp2_with fail
        obtain ⟨wA, hwA⟩ : ∃ x : World, x = wr := ⟨_, rfl⟩
        subst hwA
        go_loopw [8] (fun i wr => CRel2 w A M (.slice ao4 M.length cp4) ps i wr) (fun i _ => M.length - (intOf i).toNat)
        case atStart => exact ⟨0, _, _, rfl, by omega, HCS.out⟩
        case round =>
          obtain ⟨j, va2, mo2, rfl, hj, hcs2⟩ := hrel
          have HC := Lib.hid hcs2
          clear hcs2
          by_cases hjl : j < M.length
          · have hpj : j < ps.length := by rw [HC.out.row.len]; exact hjl
            obtain ⟨g, cap, hsl, hcl, hgl⟩ := own_row_cells rfl HC.out.row.row hpj
            have hae : ps[j].1 = M[j] := by
              have h1 := HC.out.row.map
              have h2 : (ps.map (·.1))[j]'(by rw [List.length_map]; exact hpj) = ps[j].1 := List.getElem_map _
              rw [← h2]
              simp only [h1]
            have HLI := Lib.hid (HC.out.row.lie _ (List.getElem_mem hpj))
            obtain ⟨a, ha⟩ : ∃ a, a = M[j] := ⟨_, rfl⟩
            obtain ⟨hh, hhe⟩ : ∃ hh, hh = ps[j].2 := ⟨_, rfl⟩
            rw [hae, ← ha, ← hhe] at hcl HLI
            have hmem : a ∈ M := by rw [ha]; exact List.getElem_mem hjl
            have hmay := HC.out.ar.ok.may a hmem
            have hnum : num M a = j := by rw [ha]; exact num_at HC.out.ar.ok hjl
            have hins : Tm.ins a M = M := ins_same a M HC.out.ar.ok hmem
            have HPUT := Lib.hid (Put_any HC.out.ar a hh (FirmS.of HLI.out (fun q hq => HC.out.high q hq) HC.out.bel.size) (by omega))
            rw [hins, hnum] at HPUT
            have HMEM := Lib.hid hmem
            have HMAY := Lib.hid hmay
            have HNUM := Lib.hid hnum
            have HCL := Lib.hid hcl
            have HGL := Lib.hid (show g < w.heap.size ∨ w.heap.size ≤ g by omega)
            obtain ⟨k0, k1, k2, k3, k4⟩ := hcl
            injection hsl with hs1 hs2 hs3
            subst hs1
            have hvb : Hid ((Value.slice (some ⟨g, 0, none⟩) M.length cp4).ownBlock = some g) := Lib.hid rfl
            unfold Tm.val Tm.vals at HPUT
            clear ha hhe hmem hmay hnum hins hae hs2 hs3
            go_wp2_with fail
            refine HPUT.out.mono ?_
            rintro e w3 ⟨hy, _⟩
            obtain ⟨rfl, m3⟩ := hy HMAY.out
            obtain ⟨va3, mo3, har3, hh3, hrow3, hap3, hb3, hbw3⟩ := HC.out.put m3
            have HC3 := Lib.hid (show CS w w3 A M (.slice (some ⟨g, 0, none⟩) M.length cp4) ps va3 mo3 from ⟨har3, hh3, hrow3, hap3, hb3⟩)
            have hgk : w3.heap[g]? = wr.heap[g]? := by
              obtain ⟨v', mo', _, _, hr⟩ := m3
              exact hr.block g hgl (HC.out.apart g rfl)
            have HCL3 := Lib.hid (tcells_block5 HCL.out hgk)
            have HLI3 := Lib.hid (Tm.In.below hbw3 _ _ HLI.out)
            have HGET := Lib.hid (AGet_some HC3.out.ar HMEM.out)
            rw [HNUM.out] at HGET
            have hg3 : g < w3.heap.size := (HC3.out.row.row.lt g rfl).2
            clear hy m3 har3 hh3 hrow3 hap3 hb3 hbw3 hgk k0 k1 k2 k3 k4 HPUT
            go_wp2_with fail
            refine HGET.out.mono ?_
            rintro e w5 ⟨hd, rfl, hf5, b5⟩
            have HA5 := Lib.hid (hf5.here)
            obtain ⟨W6, hW6⟩ : ∃ W6, W6 = w5.alloc (a.box hd) := ⟨_, rfl⟩
            have B56 := Lib.hid (show Below w5.heap.size w5 W6 from hW6 ▸ below_one _ _)
            have B36 := Lib.hid (Trm.go b5 B56.out)
            have HX6 := Lib.hid (show W6.heap[w5.heap.size]? = some (a.box hd) from hW6 ▸ World.alloc_heap_new w5 _)
            have HC6 := Lib.hid (HC3.out.below B36.out)
            have HCL6 := Lib.hid (HCL3.out.below B36.out hg3)
            have HLI6 := Lib.hid (Tm.In.below (B36.out.mono (HC3.out.bel.size)) _ _ HLI3.out)
            have hw6 : w.heap.size ≤ W6.heap.size := HC6.out.bel.size
            have HSM := Lib.hid (fun (W : World) (hW : Below W6.heap.size W6 W) => (show Calls Try.prog 14 #[.agg #[.int .u8 a.k, .int .i64 a.n, .string a.s, .slice hd.lo a.ls.length hd.lc, .slice hd.to a.ts.length hd.tc], .agg #[.int .u8 a.k, .int .i64 a.n, .string a.s, .slice hh.lo a.ls.length hh.lc, .slice hh.to a.ts.length hh.tc]] W fun e w' => e = .returned (.bool true) ∧ Below W.heap.size W w' from
              (show same a a = true from same_iff.2 rfl) ▸ RefSame_any a a hd hh W (carry (carry HA5.out B56.out) hW) (Tm.In.mono (by have := hW.size; omega) _ _ (Tm.In.below (hW.mono hw6) _ _ HLI6.out))))
            have HLN := Lib.hid (fun (W : World) (hW : Below W6.heap.size W6 W) => Len_any (HC6.out.ar.below hW (Nat.le_refl _)))
            have hg6 : g < W6.heap.size := by have := B36.out.size; omega
            unfold Tm.box Tm.vals at hW6
            unfold Tm.val Tm.vals
            clear hf5 b5 HGET HCL3 HLI3 hg3
            go_upto_region 20 with fail
            rw [← hW6]
            clear hW6
            obtain ⟨x0, x1, x2, x3, x4⟩ := Tm.cells HX6.out
            obtain ⟨k0, k1, k2, k3, k4⟩ := HCL6.out
            go_region_held3 (fun w' => w'.cell? ⟨w5.heap.size, 0, none⟩ = some (.int .u8 a.k) ∧ w'.cell? ⟨w5.heap.size, 1, none⟩ = some (.int .i64 a.n) ∧ w'.cell? ⟨w5.heap.size, 2, none⟩ = some (.string a.s) ∧ w'.cell? ⟨w5.heap.size, 3, none⟩ = some (.slice hd.lo a.ls.length hd.lc) ∧ w'.cell? ⟨w5.heap.size, 4, none⟩ = some (.slice hd.to a.ts.length hd.tc) ∧ w'.cell? ⟨g, j * 5, none⟩ = some (.int .u8 a.k) ∧ w'.cell? ⟨g, j * 5 + 1, none⟩ = some (.int .i64 a.n) ∧ w'.cell? ⟨g, j * 5 + 2, none⟩ = some (.string a.s) ∧ w'.cell? ⟨g, j * 5 + 3, none⟩ = some (.slice hh.lo a.ls.length hh.lc) ∧ w'.cell? ⟨g, j * 5 + 4, none⟩ = some (.slice hh.to a.ts.length hh.tc))
              (go_keep)
              (first
                | (go_at_call 14; (with_reducible refine (HSM.out _ ?_).mono ?_); (first | assumption | exact (Below.refl _ _).drew); rintro e w7 ⟨rfl, bw⟩; have hb7 : Below W6.heap.size W6 w7 := Trm.go (by first | assumption | exact (Below.refl _ _).drew) bw; obtain ⟨x0, x1, x2, x3, x4⟩ := Tm.cells (Lvl.keep hb7 HX6.out); obtain ⟨k0, k1, k2, k3, k4⟩ := HCL6.out.below hb7 hg6)
                | (go_at_call 13; (with_reducible refine (HLN.out _ ?_).mono ?_); (first | assumption | exact (Below.refl _ _).drew); rintro e w7 ⟨rfl, bw⟩; have hb8 : Below W6.heap.size W6 w7 := Trm.go (by first | assumption | exact (Below.refl _ _).drew) bw; obtain ⟨x0, x1, x2, x3, x4⟩ := Tm.cells (Lvl.keep hb8 HX6.out); obtain ⟨k0, k1, k2, k3, k4⟩ := HCL6.out.below hb8 hg6))
            all_goals
              have hwj : IntKind.i64.wrap ((j : Int) + 1) = (j : Int) + 1 := IntWalk.i64_in _ (by omega)
              go_wp2_with fail
              go_roundw
              case rel => exact ⟨j + 1, va3, mo3, by go_num, by omega, HC6.out.below (by assumption)⟩
              case measure => simp [intOf]; omega
          · go_wp2_with fail
            refine (works5_any _).mono ?_
            rintro e w7 ⟨rfl, b7⟩
            have H7 := Lib.hid (Trm.go HC.out.bel b7)
            clear b7
            go_wp2_with fail
            go_ret
            exact ⟨rfl, H7.out⟩
  · go_wp2_with fail
    refine (works5_any _).mono ?_
    rintro e w2 ⟨rfl, b2⟩
    have H2 := Lib.hid (Trm.go H1.out b2)
    clear b2 H1
    go_wp2_with fail
    go_ret
    exact ⟨rfl, H2.out⟩
end Go.Proofs.Ytgbegbjlbheieaa

