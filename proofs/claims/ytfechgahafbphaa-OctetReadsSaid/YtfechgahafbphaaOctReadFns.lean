/-
  The document's own reader: Number and Name.
-/
import Derived.Test.YtfechgahafbphaaOctReadNext
namespace Go.Proofs.Ytfechgahafbphaa
open Go.RowKit Oct

theorem Oct.RTurned.after {w w1 : World} {L Q : Nat} {ao : Option Addr} {cap : Nat} {x : Value} {s : St} {e : Ending} {w' : World} (b : Below w.heap.size w w1) (h : RTurned L w1 Q ao cap x s e w') : RTurned L w Q ao cap x s e w' :=
  ⟨h.1, h.2.1, grownBy_trans (Below.grownBy b (some Q)) h.2.2⟩

set_option maxRecDepth 100000 in
set_option maxHeartbeats 4000000 in
theorem rnumber_any (w : World) {L : Nat} (Q : Nat) (ao : Option Addr) (cap : Nat) (s : St) (hr : Rf L w Q ao cap s) (most : Nat) :
    Calls Try.prog 18 #[ptr Q, .int .u64 most] w (RTurned L w Q ao cap (.int .u64 (s.number most).1) (s.number most).2) := by
  obtain ⟨c0, c1, c2, c3⟩ := four_cells' hr.box
  have hsm := hr.small
  have HR := Lib.hid hr
  have hnext := next_any w Q ao cap s hr
  by_cases he : s.err = 0
  case neg =>
    have e : s.number most = (0, s) := by rw [St.number, if_pos he]
    have hb : (s.err != 0) = true := by simp [he]
    rw [e]
    clear he hr e hnext
    unfold ptr
    go_enter Try.func18, Try.ntmps18
    go_wp2
    go_ret
    exact ⟨rfl, HR.out, grownBy_self _ _⟩
  case pos =>
    rw [he] at c2
    obtain ⟨n, z, hx⟩ : ∃ n z, num (s.bs.drop s.p) = (n, z) := ⟨_, _, rfl⟩
    by_cases h0 : z = 0
    · have e : s.number most = (0, s.stop 3) := by rw [St.number, if_neg (by simp [he]), hx, if_pos h0]
      rw [next_no (by rw [hx]; exact h0)] at hnext
      rw [e]
      have HN := Lib.hid hnext
      clear hr he e hx hnext h0
      unfold ptr at HN ⊢
      go_enter Try.func18, Try.ntmps18
      go_wp2_with fail
      refine HN.out.mono ?_
      rintro e w1 ⟨rfl, b1⟩
      obtain ⟨d0, d1, d2, d3⟩ := four_cells' (HR.out.keptAll b1).box
      have HR1 := Lib.hid (HR.out.keptAll b1)
      have HB := Lib.hid b1
      clear b1 HN
      go_wp2_with fail
      refine (rfail_any _ Q _ _ s HR1.out s.p 3).mono ?_
      rintro e w2 ⟨rfl, hr', hg'⟩
      have HR2 := Lib.hid hr'
      have HG := Lib.hid hg'
      clear hr' hg' d0 d1 d2 d3
      go_wp2_with fail
      go_ret
      exact RTurned.after HB.out ⟨rfl, HR2.out, HG.out⟩
    · have hz := (num_sound hx h0).1
      rw [List.length_drop] at hz
      rw [next_yes hx h0] at hnext
      by_cases hm : most < n
      · have e : s.number most = (0, s.stop 4) := by rw [St.number, if_neg (by simp [he]), hx, if_neg h0, if_pos hm]
        rw [e]
        have d9 : decide ((most : Int) < n) = true := by simp; omega
        have HN := Lib.hid hnext
        clear hr he e hx hnext h0
        unfold ptr at HN ⊢
        go_enter Try.func18, Try.ntmps18
        go_wp2_with fail
        refine HN.out.mono ?_
        rintro e w1 ⟨rfl, b1⟩
        obtain ⟨d0, d1, d2, d3⟩ := four_cells' (HR.out.keptAll b1).box
        have HR1 := Lib.hid (HR.out.keptAll b1)
        have HB := Lib.hid b1
        clear b1 HN
        go_wp2_with fail
        refine (rfail_any _ Q _ _ s HR1.out s.p 4).mono ?_
        rintro e w2 ⟨rfl, hr', hg'⟩
        have HR2 := Lib.hid hr'
        have HG := Lib.hid hg'
        clear hr' hg' d0 d1 d2 d3
        go_wp2_with fail
        go_ret
        exact RTurned.after HB.out ⟨rfl, HR2.out, HG.out⟩
      · have e : s.number most = (n, s.goTo (s.p + z)) := by rw [St.number, if_neg (by simp [he]), hx, if_neg h0, if_neg hm]
        rw [e]
        have d9 : decide ((most : Int) < n) = false := by simp; omega
        have hat := hr.at_
        have HN := Lib.hid hnext
        have HZ := Lib.hid hz
        clear hr he e hx hnext h0 hz
        unfold ptr at HN ⊢
        go_enter Try.func18, Try.ntmps18
        go_wp2_with fail
        refine HN.out.mono ?_
        rintro e w1 ⟨rfl, b1⟩
        have f1 := four_free' (HR.out.keptAll b1).box 1
        obtain ⟨d0, d1, d2, d3⟩ := four_cells' (HR.out.keptAll b1).box
        have HR1 := Lib.hid (HR.out.keptAll b1)
        have HB := Lib.hid b1
        have hto : decide (((s.p + z : Nat) : Int) < 0) = false := by simp; omega
        clear b1 HN
        go_wp2_with fail
        go_ret
        obtain ⟨k1, k2⟩ := HR1.out.setAt (s.p + z) (by have := HZ.out; omega)
        refine RTurned.after HB.out ⟨rfl, ?_, ?_⟩
        · simpa using k1
        · simpa using k2

theorem Oct.cutAt_block {ao : Option Addr} {cap p : Nat} {a : Addr} (h : cutAt ao cap p = some a) : ∃ a0, ao = some a0 ∧ a.block = a0.block := by
  unfold cutAt at h
  split at h
  · exact ⟨a, h, rfl⟩
  · obtain ⟨a0, h1, rfl⟩ := Option.map_eq_some_iff.1 h
    exact ⟨a0, h1, by unfold Addr.add; split <;> rfl⟩
theorem Oct.RTurned.at {w w1 : World} {L Q : Nat} {ao : Option Addr} {cap : Nat} {s : St} (b : Below w.heap.size w w1) (hr : Rf L w1 Q ao cap s) {x : Value} {q p : Nat} (hp : p ≤ s.bs.length) {v : Int} (hv : v = (p : Int)) : RTurned L w Q ao cap x (s.goTo p) (.returned x) ((w1.setCell ⟨Q, 1, none⟩ (.int .i64 v)).drewN q) := by
  subst hv
  obtain ⟨k1, k2⟩ := hr.setAt p hp
  exact RTurned.after b ⟨rfl, k1.drewN _, grownBy_drewN' k2⟩

set_option maxRecDepth 100000 in
set_option maxHeartbeats 8000000 in
theorem rrname_any (w : World) {L : Nat} (Q : Nat) (ao : Option Addr) (cap : Nat) (s : St) (hr : Rf L w Q ao cap s) :
    Calls Try.prog 22 #[ptr Q] w (RTurned L w Q ao cap (.string ⟨s.name.1.toArray⟩) s.name.2) := by
  obtain ⟨c0, c1, c2, c3⟩ := four_cells' hr.box
  have hsm := hr.small
  have hat := hr.at_
  have HR := Lib.hid hr
  have hnext := next_any w Q ao cap s hr
  by_cases he : s.err = 0
  case neg =>
    have e : s.name = ([], s) := by rw [St.name, if_pos he]
    have hb : (s.err != 0) = true := by simp [he]
    rw [e]
    clear he hr e hnext
    unfold ptr
    go_enter Try.func22, Try.ntmps22
    go_wp2
    go_ret
    exact ⟨rfl, HR.out, grownBy_self _ _⟩
  case pos =>
    rw [he] at c2
    obtain ⟨t, ht⟩ : ∃ t, t = s.bs.drop s.p := ⟨_, rfl⟩
    have hlen : t.length = s.bs.length - s.p := by rw [ht, List.length_drop]
    obtain ⟨n, z, hx⟩ : ∃ n z, num t = (n, z) := ⟨_, _, rfl⟩
    have bad : ∀ E : Int, nameAt t = ([], 0, E) → E ≠ 0 → s.name = ([], s.stop E) := fun E h hE => by
      rw [St.name, if_neg (by simp [he]), ← ht, h, if_pos hE]
    by_cases h0 : z = 0
    · have e := bad 3 (by rw [nameAt, hx, if_pos h0]) (by decide)
      rw [next_no (by rw [← ht, hx]; exact h0)] at hnext
      rw [e]
      have HN := Lib.hid hnext
      clear hr he e hx hnext h0 bad ht
      unfold ptr at HN ⊢
      go_enter Try.func22, Try.ntmps22
      go_wp2_with fail
      refine HN.out.mono ?_
      rintro e w1 ⟨rfl, b1⟩
      obtain ⟨d0, d1, d2, d3⟩ := four_cells' (HR.out.keptAll b1).box
      have HR1 := Lib.hid (HR.out.keptAll b1)
      have HB := Lib.hid b1
      clear b1 HN
      go_wp2_with fail
      refine (rfail_any _ Q _ _ s HR1.out s.p 3).mono ?_
      rintro e w2 ⟨rfl, hr', hg'⟩
      have HR2 := Lib.hid hr'
      have HG := Lib.hid hg'
      clear hr' hg' d0 d1 d2 d3
      go_wp2_with fail
      go_ret
      exact RTurned.after HB.out ⟨rfl, HR2.out, HG.out⟩
    · have hz := (num_sound hx h0).1
      rw [next_yes (by rw [← ht]; exact hx) h0] at hnext
      have hto : decide (((s.p : Int) + (z : Int)) < 0) = false := by simp; omega
      by_cases hm : 32 < n
      · have e := bad 4 (by rw [nameAt, hx]; simp only; rw [if_neg h0, if_pos hm]) (by decide)
        rw [e]
        have HN := Lib.hid hnext
        clear hr he e hx hnext h0 bad ht
        unfold ptr at HN ⊢
        go_enter Try.func22, Try.ntmps22
        go_wp2_with fail
        refine HN.out.mono ?_
        rintro e w1 ⟨rfl, b1⟩
        obtain ⟨d0, d1, d2, d3⟩ := four_cells' (HR.out.keptAll b1).box
        have HR1 := Lib.hid (HR.out.keptAll b1)
        have HB := Lib.hid b1
        clear b1 HN
        go_wp2_with fail
        refine (rfail_any _ Q _ _ s HR1.out s.p 4).mono ?_
        rintro e w2 ⟨rfl, hr', hg'⟩
        have HR2 := Lib.hid hr'
        have HG := Lib.hid hg'
        clear hr' hg' d0 d1 d2 d3
        go_wp2_with fail
        go_ret
        exact RTurned.after HB.out ⟨rfl, HR2.out, HG.out⟩
      · have hwn : IntKind.i64.wrap (n : Int) = n := IntWalk.i64_in _ (by omega)
        have hwl : IntKind.i64.wrap ((s.bs.length : Int) - ((s.p : Int) + (z : Int))) = (s.bs.length : Int) - ((s.p : Int) + (z : Int)) := IntWalk.i64_in _ (by omega)
        by_cases hlong : t.length < z + n
        · have e := bad 3 (by rw [nameAt, hx]; simp only; rw [if_neg h0, if_neg hm, if_pos hlong]) (by decide)
          rw [e]
          have d9 : decide ((s.bs.length : Int) - ((s.p : Int) + (z : Int)) < n) = true := by simp; omega
          have HN := Lib.hid hnext
          clear hr he e hx hnext h0 bad ht
          unfold ptr at HN ⊢
          go_enter Try.func22, Try.ntmps22
          go_wp2_with fail
          refine HN.out.mono ?_
          rintro e w1 ⟨rfl, b1⟩
          obtain ⟨d0, d1, d2, d3⟩ := four_cells' (HR.out.keptAll b1).box
          have HR1 := Lib.hid (HR.out.keptAll b1)
          have HB := Lib.hid b1
          clear b1 HN
          go_wp2_with fail
          refine (rfail_any _ Q _ _ s HR1.out s.p 3).mono ?_
          rintro e w2 ⟨rfl, hr', hg'⟩
          have HR2 := Lib.hid hr'
          have HG := Lib.hid hg'
          clear hr' hg' d0 d1 d2 d3
          go_wp2_with fail
          go_ret
          exact RTurned.after HB.out ⟨rfl, HR2.out, HG.out⟩
        · have d9 : decide ((s.bs.length : Int) - ((s.p : Int) + (z : Int)) < n) = false := by simp; omega
          obtain ⟨A2, Y, C2, hY, hrow2, hoff, hsl⟩ : ∃ A2 Y C2, Y = (t.drop z).take n ∧ Row w A2 C2 Y ∧ (0 < Y.length → ∀ a, A2 = some a → some a.block ≠ some Q) ∧ ∀ wx, (Instr.slice 22 (.slice ao s.bs.length cap) (some (.int .i64 ((s.p : Int) + (z : Int)))) (some (.int .i64 (((s.p : Int) + (z : Int)) + (n : Int)))) none).run Try.prog wx = .ok (.slice A2 Y.length C2) wx := by
            refine ⟨cutAt ao cap (s.p + z), _, cap - (s.p + z), rfl, by rw [ht, List.drop_drop]; exact (HR.out.row.cut (s.p + z) (by omega)).take n, fun h0 a ha => ?_, fun wx => ?_⟩
            · obtain ⟨a0, h1, h2⟩ := cutAt_block ha
              rw [h2]
              have h3 := HR.out.off (by rw [List.length_take, List.length_drop] at h0; omega) a0 h1
              have h4 := HR.out.lq
              simp
              omega
            have e := run_cut2 ao s.bs.length cap (s.p + z) (s.p + z + n) (by omega) (by have := HR.out.row.len; omega) wx
            rw [show ((s.p + z + n : Nat) : Int) = ((s.p : Int) + (z : Int)) + (n : Int) by omega, show ((s.p + z : Nat) : Int) = (s.p : Int) + (z : Int) by omega] at e
            rw [e]
            congr 2
            rw [List.length_take, List.length_drop]
            omega
          obtain ⟨S, hS⟩ : ∃ S : ByteArray, S = ⟨Y.toArray⟩ := ⟨_, rfl⟩
          have hlY : Y.length ≤ 32 := by rw [hY, List.length_take]; omega
          have hSs : S.size ≤ 1000000 := by rw [hS]; simp [ByteArray.size]; omega
          have hcv : ∀ W, Row W A2 C2 Y → ∀ q, (convert 22 9 (.slice A2 Y.length C2)).run Try.prog (World.drewN W q) = .ok (.string S) (World.drewN W q) := fun W hW q => by rw [hS]; exact run_strN' hW rfl q
          have HOFF := Lib.hid hoff
          have his := fun W => is_any W S hSs
          clear hoff
          have hSl : S.data.toList = Y := by rw [hS]
          rw [hSl] at his
          have HS := Lib.hid hS
          cases hin : isName Y
          · have e := bad 5 (by rw [nameAt, hx]; simp only; rw [if_neg h0, if_neg hm, if_neg hlong, ← hY, hin]; simp) (by decide)
            rw [e]
            rw [hin] at his
            have HI := Lib.hid his
            have HN := Lib.hid hnext
            have HCV := Lib.hid hcv
            have HROW := Lib.hid hrow2
            clear hr he e hx hnext h0 bad ht hY hS hSl hin his hcv hrow2
            unfold ptr at HN ⊢
            go_enter Try.func22, Try.ntmps22
            go_wp2_with fail
            refine HN.out.mono ?_
            rintro e w1 ⟨rfl, b1⟩
            obtain ⟨d0, d1, d2, d3⟩ := four_cells' (HR.out.keptAll b1).box
            have hcv1 : (convert 22 9 (.slice A2 Y.length C2)).run Try.prog w1 = .ok (.string S) w1 := HCV.out w1 (HROW.out.grown (Below.grownBy b1 none)) 0
            have HR1 := Lib.hid (HR.out.keptAll b1)
            have HB := Lib.hid b1
            clear b1 HN
            go_wp2_with (go_at_call 90; refine (HI.out _).mono ?_; rintro e w' ⟨rfl, rfl⟩)
            refine (rfail_any _ Q _ _ s HR1.out s.p 5).mono ?_
            rintro e w2 ⟨rfl, hr', hg'⟩
            have HR2 := Lib.hid hr'
            have HG := Lib.hid hg'
            clear hr' hg' d0 d1 d2 d3 hcv1
            go_wp2_with fail
            go_ret
            exact RTurned.after HB.out ⟨rfl, HR2.out, HG.out⟩
          · have e : s.name = (Y, s.goTo (s.p + z + n)) := by
              have h1 : nameAt t = (Y, z + n, 0) := by rw [nameAt, hx]; simp only; rw [if_neg h0, if_neg hm, if_neg hlong, ← hY, hin]; simp
              rw [St.name, if_neg (by simp [he]), ← ht, h1, if_neg (by simp), Nat.add_assoc]
            rw [e]
            simp only
            rw [← hS]
            rw [hin] at his
            have HI := Lib.hid his
            have HN := Lib.hid hnext
            have HCV := Lib.hid hcv
            have HROW := Lib.hid hrow2
            clear hr he e hx hnext h0 bad ht hY hS hSl hin his hcv hrow2
            unfold ptr at HN ⊢
            go_enter Try.func22, Try.ntmps22
            go_wp2_with fail
            refine HN.out.mono ?_
            rintro e w1 ⟨rfl, b1⟩
            have hR1 := HR.out.keptAll b1
            have f1 := four_free' hR1.box 1
            obtain ⟨d0, d1, d2, d3⟩ := four_cells' hR1.box
            have hcv1 : (convert 22 9 (.slice A2 Y.length C2)).run Try.prog w1 = .ok (.string S) w1 := HCV.out w1 (HROW.out.grown (Below.grownBy b1 none)) 0
            have HR1 := Lib.hid hR1
            have HB := Lib.hid b1
            obtain ⟨k1, k2⟩ := hR1.setAt (s.p + z + n) (by omega)
            rw [show ((s.p + z + n : Nat) : Int) = ((s.p : Int) + (z : Int)) + (n : Int) by omega] at k1 k2
            have hA2 : Row (w1.setCell ⟨Q, 1, none⟩ (.int .i64 (((s.p : Int) + (z : Int)) + (n : Int)))) A2 C2 Y := by
              exact (HROW.out.grown (Below.grownBy b1 none)).besides k2 (HOFF.out)
            have hcvN := HCV.out _ hA2
            have e0 : (w1.setCell ⟨Q, 1, none⟩ (.int .i64 (((s.p : Int) + (z : Int)) + (n : Int)))).cell? ⟨Q, 0, none⟩ = some (.slice ao s.bs.length cap) := (by
              have hb := hR1.box
              simp [World.cell?, World.setCell, Array.getElem?_modify, hb])
            have e1 : (w1.setCell ⟨Q, 1, none⟩ (.int .i64 (((s.p : Int) + (z : Int)) + (n : Int)))).cell? ⟨Q, 1, none⟩ = some (.int .i64 (((s.p : Int) + (z : Int)) + (n : Int))) := (by
              have hb := hR1.box
              simp [World.cell?, World.setCell, Array.getElem?_modify, hb])
            clear b1 HN k1 k2 hR1 hA2 d2 d3
            go_wp2_with (go_at_call 90; refine (HI.out _).mono ?_; rintro e w' ⟨rfl, rfl⟩)
            go_quiet (fail)
            go_wp2
            go_ret
            exact RTurned.at HB.out HR1.out (p := s.p + z + n) (by omega) (by omega)
end Go.Proofs.Ytfechgahafbphaa
