/-
  The walk of the statement OctetPuts.
-/
import Derived.Test.YtjnafoiijcdpfaaOctRef
namespace Go.Proofs.Ytjnafoiijcdpfaa
open Go.RowKit Oct

/-- 'string(b)' of no slice. -/
theorem Oct.run_strNone (w : World) : (convert 22 9 (.slice none 0 0)).run Try.prog w = .ok (.string ⟨([] : List UInt8).toArray⟩) w := run_strN (nilRow w) rfl

/-- What PutName answers: bytes in new memory and an error, or nothing and an error. -/
def Oct.PN (w : World) (out : List UInt8) (m : Nat) (er : Int) (e : Ending) (w' : World) : Prop :=
  ∃ ao cap, e = .returned (.tuple #[.slice ao m cap, .int .i64 er]) ∧ Row w' ao cap out ∧ Below w.heap.size w w'
def Oct.pnOut (bs : List UInt8) (s : ByteArray) : List UInt8 := if isName s.data.toList then bs ++ enc s.size ++ s.data.toList else []
def Oct.pnErr (s : ByteArray) : Int := if isName s.data.toList then 0 else 5

theorem Oct.pn_yes {f : FuncId} {args : Array Value} {w : World} {out : List UInt8} (h : Calls Try.prog f args w (MadeOk w out)) : Calls Try.prog f args w (PN w out out.length 0) :=
  h.mono fun e w' ⟨v, he, own, bel⟩ => by
    obtain ⟨ao, c, rfl⟩ := own_shape own
    exact ⟨ao, c, he, Row.ofOwn own, bel⟩
theorem Oct.pn_no {f : FuncId} {args : Array Value} {w : World} (h : Calls Try.prog f args w (NotName w)) : Calls Try.prog f args w (PN w [] 0 5) :=
  h.mono fun e w' ⟨he, hw⟩ => by
    subst hw
    exact ⟨none, 0, he, nilRow w, Below.refl _ _⟩

theorem putName_pn (w : World) (ao : Option Addr) (cap n : Nat) (bs : List UInt8) (s : ByteArray) (hb : Row w ao cap bs) (hn : bs.length = n) (hl : n ≤ 900000) (hs : s.size ≤ 1000000) :
    Calls Try.prog 12 #[.slice ao n cap, .string s] w (PN w (pnOut bs s) (pnOut bs s).length (pnErr s)) := by
  subst hn
  unfold pnOut pnErr
  cases h : isName s.data.toList
  · exact pn_no (putName_no w ao _ cap s hs h)
  · exact pn_yes (putName_yes w ao cap bs s hb hl hs h)
theorem refPutName_pn (w : World) (ao : Option Addr) (cap n : Nat) (bs : List UInt8) (s : ByteArray) (hb : Row w ao cap bs) (hn : bs.length = n) (hl : n ≤ 900000) (hs : s.size ≤ 1000000) :
    Calls Try.prog 13 #[.slice ao n cap, .string s] w (PN w (pnOut bs s) (pnOut bs s).length (pnErr s)) := by
  subst hn
  unfold pnOut pnErr
  cases h : isName s.data.toList
  · exact pn_no (refPutName_no w ao _ cap s hs h)
  · exact pn_yes (refPutName_yes w ao cap bs s hb hl hs h)

set_option maxRecDepth 100000 in
set_option maxHeartbeats 8000000 in
theorem law_puts (ao : Option Addr) (cap : Nat) (bs : List UInt8) (N : Nat) (s : ByteArray) (w : World) (hN : N < 18446744073709551616) (hrow : Row w ao cap bs) (hlb : bs.length ≤ 140737488351232) (hls : s.size ≤ 140737488351232) :
    Calls Try.prog 3 #[.slice ao bs.length cap, .int .u64 N, .string s] w fun e w' => e = .returned (.bool true) ∧ Below w.heap.size w w' := by
  by_cases hbig : 4096 < bs.length + s.size
  · clear hrow hN
    go_enter Try.func3, Try.ntmps3
    go_wp2_with (go_at_call 9; refine (works_any _).mono ?_; rintro x w1 ⟨rfl, b1⟩)
    go_ret
    exact ⟨rfl, b1⟩
  · have hle := enc_length_le hN
    obtain ⟨X, hX⟩ : ∃ X, X = bs ++ enc N := ⟨_, rfl⟩
    have hXl : X.length ≤ 5000 := by rw [hX, List.length_append]; omega
    have HX := Lib.hid hX
    have HN := Lib.hid hN
    have HR := Lib.hid hrow
    have HL := Lib.hid hle
    have hs : s.size ≤ 4096 := by omega
    have hbl : bs.length ≤ 4096 := by omega
    obtain ⟨n, hn⟩ : ∃ n, n = bs.length := ⟨_, rfl⟩
    have HNB := Lib.hid hn
    rw [← hn] at hbl hlb hbig ⊢
    clear hX hN hrow hle hn
    go_enter Try.func3, Try.ntmps3
    go_wp2_with fail
    refine (roomy_any _ ao cap n bs HR.out HNB.out.symm (by omega)).mono ?_
    rintro e w1 ⟨g, rfl, hg, b1, r1⟩
    have HG1 := Lib.hid r1
    have HB1 := Lib.hid b1
    clear hg b1 r1
    go_wp2_with fail
    have hput : Calls Try.prog 11 #[.slice (some ⟨g, 0, none⟩) n (n + 64), .int .u64 N] w1 (Made w1 X) := by
      have h := put_any w1 (some ⟨g, 0, none⟩) (bs.length + 64) bs N HL.out (HG1.out.row (by rw [← HNB.out]; omega)) (by rw [← HNB.out]; omega)
      rw [← HX.out, ← HNB.out] at h
      exact h
    refine hput.mono ?_
    clear hput
    rintro e w2 ⟨x, rfl, ownx, b2⟩
    obtain ⟨aox, cx, hx⟩ := own_shape ownx
    subst hx
    have HOX := Lib.hid (Row.ofOwn ownx)
    have HG2 := Lib.hid (HG1.out.keptAll b2)
    have HB2 := Lib.hid (HB1.out.trans (b2.mono HB1.out.size))
    clear ownx b2
    go_wp2_with fail
    obtain ⟨Y, hY⟩ : ∃ Y, Y = pnOut bs s := ⟨_, rfl⟩
    obtain ⟨er, her⟩ : ∃ er, er = pnErr s := ⟨_, rfl⟩
    have HY := Lib.hid hY
    have HE := Lib.hid her
    have p1 : Calls Try.prog 12 #[.slice (some ⟨g, 0, none⟩) n (n + 64), .string s] w2 (PN w2 Y Y.length er) := by
      have h := putName_pn w2 (some ⟨g, 0, none⟩) (bs.length + 64) n bs s (HG2.out.row (by rw [← HNB.out]; omega)) HNB.out.symm (by omega) (by omega)
      rw [← hY, ← her, ← HNB.out] at h
      exact h
    refine p1.mono ?_
    clear p1 hY her
    rintro e w3 ⟨aoy, cy, rfl, ry, b3⟩
    have HOX3 := Lib.hid (HOX.out.keptAll b3)
    have HG3 := Lib.hid (HG2.out.keptAll b3)
    have HY3 := Lib.hid ry
    have HB3 := Lib.hid (HB2.out.trans (b3.mono HB2.out.size))
    clear ry b3
    go_wp2_with fail
    have p2 : Calls Try.prog 13 #[.slice ao n cap, .string s] w3 (PN w3 Y Y.length er) := by
      have h := refPutName_pn w3 ao cap n bs s (HR.out.keptAll HB3.out) HNB.out.symm (by omega) (by omega)
      rw [← HY.out, ← HE.out] at h
      exact h
    refine p2.mono ?_
    clear p2
    rintro e w4 ⟨aoz, cz, rfl, rz, b4⟩
    have HOX4 := Lib.hid (HOX3.out.keptAll b4)
    have HG4 := Lib.hid (HG3.out.keptAll b4)
    have HY4 := Lib.hid (HY3.out.keptAll b4)
    have HZ4 := Lib.hid rz
    have HB4 := Lib.hid (HB3.out.trans (b4.mono HB3.out.size))
    clear rz b4
    have cx0 := run_strN (n := X.length) HOX4.out.drew rfl
    have hput : Calls Try.prog 14 #[.slice ao n cap, .int .u64 N] w4.drew (Made w4.drew X) := by
      have h := refPut_any w4.drew ao cap bs N HN.out (HR.out.keptAll HB4.out).drew (by rw [← HNB.out]; omega)
      rw [← HX.out, ← HNB.out] at h
      exact h
    have HP := Lib.hid hput
    have hname := fun w => name_any w s (by omega)
    have his := fun w => is_any w s (by omega)
    obtain ⟨nm, hnm⟩ : ∃ nm, nm = isName s.data.toList := ⟨_, rfl⟩
    rw [← hnm] at hname his
    have HM := Lib.hid hname
    have HI := Lib.hid his
    clear hput hname his hnm
    have cy0 := run_strN (n := Y.length) HY4.out.drew rfl
    have cz0 := run_strN (n := Y.length) HZ4.out.drew rfl
    go_wp2_with fail
    refine wp_region_held_drew (S := fun w' => (convert 22 9 (.slice aox X.length cx)).run Try.prog w' = .ok (.string ⟨X.toArray⟩) w' ∧ (convert 22 9 (.slice aoy Y.length cy)).run Try.prog w' = .ok (.string ⟨Y.toArray⟩) w' ∧ (convert 22 9 (.slice aoz Y.length cz)).run Try.prog w' = .ok (.string ⟨Y.toArray⟩) w') (by kernel_rfl) (⟨cx0, cy0, cz0⟩) (fun hHeld => ?_)
    refine wpAnyH_take (i := 0) (v := ?v0) rfl (by kernel_rfl) (by kernel_rfl) (by kernel_rfl) (fun _ _ _ h => h) (Or.inl ⟨by rfl, ?hy0⟩) (by assumption) ?rest0
    case hy0 => (intro w hSw; (try dsimp only at hSw); go_simp <;> with_reducible rfl)
    try simp only [List.getElem_toArray, List.getElem_cons_succ, List.getElem_cons_zero, Act.put, List.setIfInBounds_toArray, List.set_cons_zero, List.set_cons_succ]
    refine wpAnyH_take (i := 1) (v := ?v1) rfl (by kernel_rfl) (by kernel_rfl) (by kernel_rfl) (fun _ _ _ h => h) (Or.inl ⟨by rfl, ?hy1⟩) (by assumption) ?rest1
    case hy1 => (intro w hSw; (try dsimp only at hSw); go_simp <;> with_reducible rfl)
    try simp only [List.getElem_toArray, List.getElem_cons_succ, List.getElem_cons_zero, Act.put, List.setIfInBounds_toArray, List.set_cons_zero, List.set_cons_succ]
    refine wpAnyH_take (i := 2) (v := ?v2) rfl (by kernel_rfl) (by kernel_rfl) (by kernel_rfl) (fun _ _ _ h => h) (Or.inl ⟨by rfl, ?hy2⟩) (by assumption) ?rest2
    case hy2 => (intro w hSw; (try dsimp only at hSw); go_simp <;> with_reducible rfl)
    try simp only [List.getElem_toArray, List.getElem_cons_succ, List.getElem_cons_zero, Act.put, List.setIfInBounds_toArray, List.set_cons_zero, List.set_cons_succ]
    refine wpAnyH_take (i := 3) (v := ?v3) rfl (by kernel_rfl) (by kernel_rfl) (by kernel_rfl) (fun _ _ _ h => h) (Or.inl ⟨by rfl, ?hy3⟩) (by assumption) ?rest3
    case hy3 => (intro w hSw; (try dsimp only at hSw); go_simp <;> with_reducible rfl)
    try simp only [List.getElem_toArray, List.getElem_cons_succ, List.getElem_cons_zero, Act.put, List.setIfInBounds_toArray, List.set_cons_zero, List.set_cons_succ]
    refine wpAnyH_ready (rs := [4]) (by kernel_rfl) (by simp) ?_
    refine AllReadyH.cons rfl (fun K hK => ?_) AllReadyH.nil
    go_simp
    refine HP.out.mono ?_
    rintro e w5 ⟨v5, rfl, own5, b5⟩
    obtain ⟨ao5, c5, hv5⟩ := own_shape own5
    subst hv5
    have cv5 := run_strN (n := X.length) (Row.ofOwn own5) rfl
    have cx1 := run_strN (n := X.length) (HOX4.out.drew.keptAll b5) rfl
    have cy1 := run_strN (n := Y.length) (HY4.out.drew.keptAll b5) rfl
    have cz1 := run_strN (n := Y.length) (HZ4.out.drew.keptAll b5) rfl
    have H5 := Lib.hid b5
    clear own5 b5
    refine hK.out _ _ (⟨cx1, cy1, cz1⟩) (fun hHeld => ?_)
    clear hK K
    try simp only [List.getElem_toArray, List.getElem_cons_succ, List.getElem_cons_zero, Act.put, List.setIfInBounds_toArray, List.set_cons_zero, List.set_cons_succ]
    refine wpAnyH_ready (rs := [5]) (by kernel_rfl) (by simp) ?_
    refine AllReadyH.cons rfl (fun K hK => ?_) AllReadyH.nil
    go_simp
    refine hK.out _ _ (⟨cx1, cy1, cz1⟩) (fun hHeld => ?_)
    clear hK K
    try simp only [List.getElem_toArray, List.getElem_cons_succ, List.getElem_cons_zero, Act.put, List.setIfInBounds_toArray, List.set_cons_zero, List.set_cons_succ]
    refine wpAnyH_take (i := 6) (v := ?v6) rfl (by kernel_rfl) (by kernel_rfl) (by kernel_rfl) (fun _ _ _ h => h) (Or.inl ⟨by rfl, ?hy6⟩) (by assumption) ?rest6
    case hy6 => (intro w hSw; (try dsimp only at hSw); go_simp <;> with_reducible rfl)
    try simp only [List.getElem_toArray, List.getElem_cons_succ, List.getElem_cons_zero, Act.put, List.setIfInBounds_toArray, List.set_cons_zero, List.set_cons_succ]
    refine wpAnyH_take (i := 7) (v := ?v7) rfl (by kernel_rfl) (by kernel_rfl) (by kernel_rfl) (fun _ _ _ h => h) (Or.inl ⟨by rfl, ?hy7⟩) (by assumption) ?rest7
    case hy7 => (intro w hSw; (try dsimp only at hSw); go_simp <;> with_reducible rfl)
    try simp only [List.getElem_toArray, List.getElem_cons_succ, List.getElem_cons_zero, Act.put, List.setIfInBounds_toArray, List.set_cons_zero, List.set_cons_succ]
    refine wpAnyH_take (i := 8) (v := ?v8) rfl (by kernel_rfl) (by kernel_rfl) (by kernel_rfl) (fun _ _ _ h => h) (Or.inl ⟨by rfl, ?hy8⟩) (by assumption) ?rest8
    case hy8 => (intro w hSw; (try dsimp only at hSw); go_simp <;> with_reducible rfl)
    try simp only [List.getElem_toArray, List.getElem_cons_succ, List.getElem_cons_zero, Act.put, List.setIfInBounds_toArray, List.set_cons_zero, List.set_cons_succ]
    refine wpAnyH_take (i := 9) (v := ?v9) rfl (by kernel_rfl) (by kernel_rfl) (by kernel_rfl) (fun _ _ _ h => h) (Or.inl ⟨by rfl, ?hy9⟩) (by assumption) ?rest9
    case hy9 => (intro w hSw; (try dsimp only at hSw); go_simp <;> with_reducible rfl)
    try simp only [List.getElem_toArray, List.getElem_cons_succ, List.getElem_cons_zero, Act.put, List.setIfInBounds_toArray, List.set_cons_zero, List.set_cons_succ]
    refine wpAnyH_take (i := 10) (v := ?v10) rfl (by kernel_rfl) (by kernel_rfl) (by kernel_rfl) (fun _ _ _ h => h) (Or.inl ⟨by rfl, ?hy10⟩) (by assumption) ?rest10
    case hy10 => (intro w hSw; (try dsimp only at hSw); go_simp <;> with_reducible rfl)
    try simp only [List.getElem_toArray, List.getElem_cons_succ, List.getElem_cons_zero, Act.put, List.setIfInBounds_toArray, List.set_cons_zero, List.set_cons_succ]
    refine wpAnyH_take (i := 11) (v := ?v11) rfl (by kernel_rfl) (by kernel_rfl) (by kernel_rfl) (fun _ _ _ h => h) (Or.inl ⟨by rfl, ?hy11⟩) (by assumption) ?rest11
    case hy11 => (intro w hSw; (try dsimp only at hSw); go_simp <;> with_reducible rfl)
    try simp only [List.getElem_toArray, List.getElem_cons_succ, List.getElem_cons_zero, Act.put, List.setIfInBounds_toArray, List.set_cons_zero, List.set_cons_succ]
    refine wpAnyH_take (i := 12) (v := ?v12) rfl (by kernel_rfl) (by kernel_rfl) (by kernel_rfl) (fun _ _ _ h => h) (Or.inl ⟨by rfl, ?hy12⟩) (by assumption) ?rest12
    case hy12 => (intro w hSw; (try dsimp only at hSw); go_simp <;> with_reducible rfl)
    try simp only [List.getElem_toArray, List.getElem_cons_succ, List.getElem_cons_zero, Act.put, List.setIfInBounds_toArray, List.set_cons_zero, List.set_cons_succ]
    refine wpAnyH_take (i := 13) (v := ?v13) rfl (by kernel_rfl) (by kernel_rfl) (by kernel_rfl) (fun _ _ _ h => h) (Or.inl ⟨by rfl, ?hy13⟩) (by assumption) ?rest13
    case hy13 => (intro w hSw; (try dsimp only at hSw); go_simp <;> with_reducible rfl)
    try simp only [List.getElem_toArray, List.getElem_cons_succ, List.getElem_cons_zero, Act.put, List.setIfInBounds_toArray, List.set_cons_zero, List.set_cons_succ]
    refine wpAnyH_take (i := 14) (v := ?v14) rfl (by kernel_rfl) (by kernel_rfl) (by kernel_rfl) (fun _ _ _ h => h) (Or.inl ⟨by rfl, ?hy14⟩) (by assumption) ?rest14
    case hy14 => (intro w hSw; (try dsimp only at hSw); go_simp <;> with_reducible rfl)
    try simp only [List.getElem_toArray, List.getElem_cons_succ, List.getElem_cons_zero, Act.put, List.setIfInBounds_toArray, List.set_cons_zero, List.set_cons_succ]
    refine wpAnyH_take (i := 15) (v := ?v15) rfl (by kernel_rfl) (by kernel_rfl) (by kernel_rfl) (fun _ _ _ h => h) (Or.inl ⟨by rfl, ?hy15⟩) (by assumption) ?rest15
    case hy15 => (intro w hSw; (try dsimp only at hSw); go_simp <;> with_reducible rfl)
    try simp only [List.getElem_toArray, List.getElem_cons_succ, List.getElem_cons_zero, Act.put, List.setIfInBounds_toArray, List.set_cons_zero, List.set_cons_succ]
    refine wpAnyH_take (i := 16) (v := ?v16) rfl (by kernel_rfl) (by kernel_rfl) (by kernel_rfl) (fun _ _ _ h => h) (Or.inl ⟨by rfl, ?hy16⟩) (by assumption) ?rest16
    case hy16 => (intro w hSw; (try dsimp only at hSw); go_simp <;> with_reducible rfl)
    try simp only [List.getElem_toArray, List.getElem_cons_succ, List.getElem_cons_zero, Act.put, List.setIfInBounds_toArray, List.set_cons_zero, List.set_cons_succ]
    refine wpAnyH_take (i := 17) (v := ?v17) rfl (by kernel_rfl) (by kernel_rfl) (by kernel_rfl) (fun _ _ _ h => h) (Or.inl ⟨by rfl, ?hy17⟩) (by assumption) ?rest17
    case hy17 => (intro w hSw; (try dsimp only at hSw); go_simp <;> with_reducible rfl)
    try simp only [List.getElem_toArray, List.getElem_cons_succ, List.getElem_cons_zero, Act.put, List.setIfInBounds_toArray, List.set_cons_zero, List.set_cons_succ]
    refine wpAnyH_take (i := 18) (v := ?v18) rfl (by kernel_rfl) (by kernel_rfl) (by kernel_rfl) (fun _ _ _ h => h) (Or.inl ⟨by rfl, ?hy18⟩) (by assumption) ?rest18
    case hy18 => (intro w hSw; (try dsimp only at hSw); go_simp <;> with_reducible rfl)
    try simp only [List.getElem_toArray, List.getElem_cons_succ, List.getElem_cons_zero, Act.put, List.setIfInBounds_toArray, List.set_cons_zero, List.set_cons_succ]
    refine wpAnyH_take (i := 19) (v := ?v19) rfl (by kernel_rfl) (by kernel_rfl) (by kernel_rfl) (fun _ _ _ h => h) (Or.inl ⟨by rfl, ?hy19⟩) (by assumption) ?rest19
    case hy19 => (intro w hSw; (try dsimp only at hSw); go_simp <;> with_reducible rfl)
    try simp only [List.getElem_toArray, List.getElem_cons_succ, List.getElem_cons_zero, Act.put, List.setIfInBounds_toArray, List.set_cons_zero, List.set_cons_succ]
    refine wpAnyH_take (i := 20) (v := ?v20) rfl (by kernel_rfl) (by kernel_rfl) (by kernel_rfl) (fun _ _ _ h => h) (Or.inl ⟨by rfl, ?hy20⟩) (by assumption) ?rest20
    case hy20 => (intro w hSw; (try dsimp only at hSw); go_simp <;> with_reducible rfl)
    try simp only [List.getElem_toArray, List.getElem_cons_succ, List.getElem_cons_zero, Act.put, List.setIfInBounds_toArray, List.set_cons_zero, List.set_cons_succ]
    refine wpAnyH_take (i := 22) (v := ?v22) rfl (by kernel_rfl) (by kernel_rfl) (by kernel_rfl) (fun _ _ _ h => h) (Or.inl ⟨by rfl, ?hy22⟩) (by assumption) ?rest22
    case hy22 => (intro w hSw; (try dsimp only at hSw); go_simp <;> with_reducible rfl)
    try simp only [List.getElem_toArray, List.getElem_cons_succ, List.getElem_cons_zero, Act.put, List.setIfInBounds_toArray, List.set_cons_zero, List.set_cons_succ]
    refine wpAnyH_ready (rs := [21]) (by kernel_rfl) (by simp) ?_
    refine AllReadyH.cons rfl (fun K hK => ?_) AllReadyH.nil
    go_simp
    refine (HM.out _).mono ?_
    rintro e w' ⟨rfl, rfl⟩
    refine hK.out _ _ (⟨cx1, cy1, cz1⟩) (fun hHeld => ?_)
    clear hK K
    try simp only [List.getElem_toArray, List.getElem_cons_succ, List.getElem_cons_zero, Act.put, List.setIfInBounds_toArray, List.set_cons_zero, List.set_cons_succ]
    refine wpAnyH_ready (rs := [23]) (by kernel_rfl) (by simp) ?_
    refine AllReadyH.cons rfl (fun K hK => ?_) AllReadyH.nil
    go_simp
    refine (HI.out _).mono ?_
    rintro e w' ⟨rfl, rfl⟩
    refine hK.out _ _ (⟨cx1, cy1, cz1⟩) (fun hHeld => ?_)
    clear hK K
    try simp only [List.getElem_toArray, List.getElem_cons_succ, List.getElem_cons_zero, Act.put, List.setIfInBounds_toArray, List.set_cons_zero, List.set_cons_succ]
    refine wpAnyH_take (i := 24) (v := ?v24) rfl (by kernel_rfl) (by kernel_rfl) (by kernel_rfl) (fun _ _ _ h => h) (Or.inl ⟨by rfl, ?hy24⟩) (by assumption) ?rest24
    case hy24 => (intro w hSw; (try dsimp only at hSw); go_simp <;> with_reducible rfl)
    try simp only [List.getElem_toArray, List.getElem_cons_succ, List.getElem_cons_zero, Act.put, List.setIfInBounds_toArray, List.set_cons_zero, List.set_cons_succ]
    refine wpAnyH_take (i := 25) (v := ?v25) rfl (by kernel_rfl) (by kernel_rfl) (by kernel_rfl) (fun _ _ _ h => h) (Or.inl ⟨by rfl, ?hy25⟩) (by assumption) ?rest25
    case hy25 => (intro w hSw; (try dsimp only at hSw); go_simp <;> with_reducible rfl)
    try simp only [List.getElem_toArray, List.getElem_cons_succ, List.getElem_cons_zero, Act.put, List.setIfInBounds_toArray, List.set_cons_zero, List.set_cons_succ]
    refine wpAnyH_take (i := 26) (v := ?v26) rfl (by kernel_rfl) (by kernel_rfl) (by kernel_rfl) (fun _ _ _ h => h) (Or.inl ⟨by rfl, ?hy26⟩) (by assumption) ?rest26
    case hy26 => (intro w hSw; (try dsimp only at hSw); go_simp <;> with_reducible rfl)
    try simp only [List.getElem_toArray, List.getElem_cons_succ, List.getElem_cons_zero, Act.put, List.setIfInBounds_toArray, List.set_cons_zero, List.set_cons_succ]
    refine wpAnyH_take (i := 27) (v := ?v27) rfl (by kernel_rfl) (by kernel_rfl) (by kernel_rfl) (fun _ _ _ h => h) (Or.inl ⟨by rfl, ?hy27⟩) (by assumption) ?rest27
    case hy27 => (intro w hSw; (try dsimp only at hSw); go_simp <;> with_reducible rfl)
    try simp only [List.getElem_toArray, List.getElem_cons_succ, List.getElem_cons_zero, Act.put, List.setIfInBounds_toArray, List.set_cons_zero, List.set_cons_succ]
    refine wpAnyH_take (i := 28) (v := ?v28) rfl (by kernel_rfl) (by kernel_rfl) (by kernel_rfl) (fun _ _ _ h => h) (Or.inl ⟨by rfl, ?hy28⟩) (by assumption) ?rest28
    case hy28 => (intro w hSw; (try dsimp only at hSw); go_simp <;> with_reducible rfl)
    try simp only [List.getElem_toArray, List.getElem_cons_succ, List.getElem_cons_zero, Act.put, List.setIfInBounds_toArray, List.set_cons_zero, List.set_cons_succ]
    refine wpAnyH_ready (rs := [29]) (by kernel_rfl) (by simp) ?_
    refine AllReadyH.cons rfl (fun K hK => ?_) AllReadyH.nil
    go_simp
    refine (kept_any _ g ao cap n bs (RoomAt.keptAll (show RoomAt w4.drew g bs from HG4.out) H5.out) ((HR.out.keptAll HB4.out).drew.keptAll H5.out) HNB.out.symm (by omega)).mono ?_
    rintro e w' ⟨rfl, rfl⟩
    refine hK.out _ _ (⟨cx1, cy1, cz1⟩) (fun hHeld => ?_)
    clear hK K
    try simp only [List.getElem_toArray, List.getElem_cons_succ, List.getElem_cons_zero, Act.put, List.setIfInBounds_toArray, List.set_cons_zero, List.set_cons_succ]
    refine wpAnyH_take (i := 30) (v := ?v30) rfl (by kernel_rfl) (by kernel_rfl) (by kernel_rfl) (fun _ _ _ h => h) (Or.inl ⟨by rfl, ?hy30⟩) (by assumption) ?rest30
    case hy30 => (intro w hSw; (try dsimp only at hSw); go_simp <;> with_reducible rfl)
    try simp only [List.getElem_toArray, List.getElem_cons_succ, List.getElem_cons_zero, Act.put, List.setIfInBounds_toArray, List.set_cons_zero, List.set_cons_succ]
    refine wpAnyH_take (i := 31) (v := ?v31) rfl (by kernel_rfl) (by kernel_rfl) (by kernel_rfl) (fun _ _ _ h => h) (Or.inl ⟨by rfl, ?hy31⟩) (by assumption) ?rest31
    case hy31 => (intro w hSw; (try dsimp only at hSw); go_simp <;> with_reducible rfl)
    try simp only [List.getElem_toArray, List.getElem_cons_succ, List.getElem_cons_zero, Act.put, List.setIfInBounds_toArray, List.set_cons_zero, List.set_cons_succ]
    refine wpAnyH_ready (rs := [32]) (by kernel_rfl) (by simp) ?_
    refine AllReadyH.cons rfl (fun K hK => ?_) AllReadyH.nil
    go_simp
    refine (works_any _).mono ?_
    rintro e w6 ⟨rfl, b6⟩
    have cx2 := run_strN (n := X.length) ((HOX4.out.drew.keptAll H5.out).keptAll b6) rfl
    have cy2 := run_strN (n := Y.length) ((HY4.out.drew.keptAll H5.out).keptAll b6) rfl
    have cz2 := run_strN (n := Y.length) ((HZ4.out.drew.keptAll H5.out).keptAll b6) rfl
    have H6 := Lib.hid b6
    clear b6
    refine hK.out _ _ (⟨cx2, cy2, cz2⟩) (fun hHeld => ?_)
    clear hK K
    try simp only [List.getElem_toArray, List.getElem_cons_succ, List.getElem_cons_zero, Act.put, List.setIfInBounds_toArray, List.set_cons_zero, List.set_cons_succ]
    refine wpAnyH_take (i := 33) (v := ?v33) rfl (by kernel_rfl) (by kernel_rfl) (by kernel_rfl) (fun _ _ _ h => h) (Or.inl ⟨by rfl, ?hy33⟩) (by assumption) ?rest33
    case hy33 => (intro w hSw; (try dsimp only at hSw); go_simp <;> with_reducible rfl)
    try simp only [List.getElem_toArray, List.getElem_cons_succ, List.getElem_cons_zero, Act.put, List.setIfInBounds_toArray, List.set_cons_zero, List.set_cons_succ]
    refine wpAnyH_take (i := 34) (v := ?v34) rfl (by kernel_rfl) (by kernel_rfl) (by kernel_rfl) (fun _ _ _ h => h) (Or.inl ⟨by rfl, ?hy34⟩) (by assumption) ?rest34
    case hy34 => (intro w hSw; (try dsimp only at hSw); go_simp <;> with_reducible rfl)
    try simp only [List.getElem_toArray, List.getElem_cons_succ, List.getElem_cons_zero, Act.put, List.setIfInBounds_toArray, List.set_cons_zero, List.set_cons_succ]
    refine wpAnyH_done (by kernel_rfl) ?_ _
    go_wp2
    go_ret
    exact ⟨rfl, (HB4.out.drew.trans (H5.out.mono HB4.out.size)).trans (H6.out.mono (Nat.le_trans HB4.out.size H5.out.size))⟩
end Go.Proofs.Ytjnafoiijcdpfaa
