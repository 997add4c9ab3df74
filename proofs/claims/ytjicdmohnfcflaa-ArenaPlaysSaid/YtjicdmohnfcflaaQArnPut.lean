/-
  arena.Put, Find.
-/
import Derived.Test.YtjicdmohnfcflaaQArnApi
namespace Go.Proofs.Ytjicdmohnfcflaa
open Go.RowKit Go.Shelf Go.Maps Lvl Trm Arn

theorem Arn.boxed {w : World} {A : Nat} {L : List Tm} {v : Value} {mo : Option Nat} {t : Tm} {h : Hd} (har : Ar w A L v mo) (hf : FirmS (own A v mo) w t h) {w1 : World} (hb : Below (w.alloc (t.box h)).heap.size (w.alloc (t.box h)) w1) :
    Ar w1 A L v mo ∧ FAt (own A v mo) w1 w.heap.size 0 t ∧ Below w.heap.size w w1 := by
  have b0 := below_one w (t.box h)
  have hbw := Trm.go b0 hb
  have hsz : w.heap.size < w1.heap.size := by have := hb.size; rw [World.size_alloc] at this; omega
  refine ⟨har.below hbw (Nat.le_refl _), ⟨hsz, fun hq => by have := har.lt _ hq; omega, h, ?_, FirmS.turn hf (RanS.of_below hbw) (fun q hq => Or.inl hq)⟩, hbw⟩
  exact Tm.cells (Lvl.keep hb (World.alloc_heap_new w _))

set_option maxRecDepth 100000 in
set_option maxHeartbeats 2000000 in
theorem Put_any {w : World} {A : Nat} {L : List Tm} {v : Value} {mo : Option Nat} (har : Ar w A L v mo) (t : Tm) (h : Hd) (hf : FirmS (own A v mo) w t h) (hlen : (L.length : Int) + 65536 ≤ 200000) :
    Calls Try.prog 8 #[.pointer (some ⟨A, 0, none⟩), t.val h] w fun e w' =>
      (t.may = true → e = .returned (.tuple #[.int .i64 (num (Tm.ins t L) t : Nat), .int .i64 0]) ∧ Moved A v mo (Tm.ins t L) w w') ∧ (t.may = false → e = .returned (.tuple #[.int .i64 0, .int .i64 1]) ∧ Moved A v mo L w w') := by
  have HAR := Lib.hid har
  have HF := Lib.hid hf
  have HLEN := Lib.hid hlen
  obtain ⟨ao, cap, rfl⟩ := har.slice
  have HMY := Lib.hid (fun (W : World) (hW : Below (w.alloc (t.box h)).heap.size (w.alloc (t.box h)) W) => PMay_any t h W (Tm.In.mono (by have := hW.size; rw [World.size_alloc] at this; omega) _ _ (Tm.In.below (Trm.go (below_one w (t.box h)) hW) _ _ hf.here)))
  clear har hf hlen
  cases hm : t.may
  · rw [hm] at HMY
    clear hm
    have HRES : Hid (∀ w', Below (w.alloc (t.box h)).heap.size (w.alloc (t.box h)) w' → Moved A (.slice ao L.length cap) mo L w w') := Lib.hid (fun w' hb => Moved.below HAR.out (boxed HAR.out HF.out hb).2.2)
    unfold Tm.val Tm.vals at *
    go_enter Try.func8, Try.ntmps8
    go_wp2_with fail
    refine (HMY.out _ (Below.refl _ _)).mono ?_
    rintro e w1 ⟨rfl, b1⟩
    have HR := Lib.hid (HRES.out _ b1)
    clear b1 HMY HRES
    go_wp2_with fail
    exact bodyPost_ret (v := .tuple #[.int .i64 0, .int .i64 1]) (by simp [results, Try.results8, go_sem]) rfl ⟨fun hh => by simp at hh, fun _ => ⟨rfl, HR.out⟩⟩
  · rw [hm] at HMY
    have HMM := Lib.hid hm
    clear hm
    obtain ⟨N, hN⟩ : ∃ N, N = num (Tm.ins t L) t := ⟨_, rfl⟩
    rw [← hN]
    have HNN := Lib.hid hN
    clear hN
    have HBX := Lib.hid (fun (w' : World) (hb : Below (w.alloc (t.box h)).heap.size (w.alloc (t.box h)) w') => boxed HAR.out HF.out hb)
    unfold Tm.val Tm.vals at *
    go_enter Try.func8, Try.ntmps8
    go_wp2_with fail
    refine (HMY.out _ (Below.refl _ _)).mono ?_
    rintro e w1 ⟨rfl, b1⟩
    obtain ⟨har1, hat1, hbw1⟩ := HBX.out _ b1
    have HNU := Lib.hid (number_any true A t w1 L _ mo _ _ har1 hat1 HMM.out (by have := may_size' HMM.out; have := HLEN.out; omega))
    have HBW := Lib.hid hbw1
    obtain ⟨c0, c1⟩ := two_cells har1.box
    have hFV : FV true A = .func (.func 29) #[.pointer (some ⟨A, 0, none⟩)] #[] := rfl
    rw [hFV] at HNU
    clear b1 HMY HBX har1 hat1 hbw1 hFV
    go_wp2_with fail
    refine HNU.out.mono ?_
    rintro e w2 ⟨he, hmv⟩
    have e1 : numI true L t = (num (Tm.ins t L) t : Nat) := rfl
    rw [e1, ← HNN.out, show fndB true L t = true from rfl] at he
    have HMV := Lib.hid (show Moved A (.slice ao L.length cap) mo (Tm.ins t L) w w2 from Moved.go (RanS.of_below HBW.out) (fun q hq => Or.inl hq) hmv)
    clear hmv e1
    subst he
    go_wp2_with fail
    exact bodyPost_ret (v := .tuple #[.int .i64 N, .int .i64 0]) (by simp [results, Try.results8, go_sem]) rfl ⟨fun _ => ⟨rfl, HMV.out⟩, fun hh => by simp at hh⟩

set_option maxRecDepth 100000 in
set_option maxHeartbeats 2000000 in
theorem Find_any {w : World} {A : Nat} {L : List Tm} {v : Value} {mo : Option Nat} (har : Ar w A L v mo) (t : Tm) (h : Hd) (hf : FirmS (own A v mo) w t h) (hlen : (L.length : Int) + 65536 ≤ 200000) :
    Calls Try.prog 14 #[.pointer (some ⟨A, 0, none⟩), t.val h] w fun e w' =>
      e = .returned (.tuple #[.int .i64 ((if t ∈ L then num L t else 0 : Nat) : Int), .bool (decide (t ∈ L))]) ∧ Moved A v mo L w w' := by
  have HAR := Lib.hid har
  have HF := Lib.hid hf
  have HLEN := Lib.hid hlen
  obtain ⟨ao, cap, rfl⟩ := har.slice
  have HMY := Lib.hid (fun (W : World) (hW : Below (w.alloc (t.box h)).heap.size (w.alloc (t.box h)) W) => PMay_any t h W (Tm.In.mono (by have := hW.size; rw [World.size_alloc] at this; omega) _ _ (Tm.In.below (Trm.go (below_one w (t.box h)) hW) _ _ hf.here)))
  clear har hf hlen
  cases hm : t.may
  · have hnot : t ∉ L := fun hin => by rw [HAR.out.ok.may t hin] at hm; cases hm
    rw [if_neg hnot, decide_eq_false hnot]
    rw [hm] at HMY
    clear hm hnot
    have HRES : Hid (∀ w', Below (w.alloc (t.box h)).heap.size (w.alloc (t.box h)) w' → Moved A (.slice ao L.length cap) mo L w w') := Lib.hid (fun w' hb => Moved.below HAR.out (boxed HAR.out HF.out hb).2.2)
    unfold Tm.val Tm.vals at *
    go_enter Try.func14, Try.ntmps14
    go_wp2_with fail
    refine (HMY.out _ (Below.refl _ _)).mono ?_
    rintro e w1 ⟨rfl, b1⟩
    have HR := Lib.hid (HRES.out _ b1)
    clear b1 HMY HRES
    go_wp2_with fail
    exact bodyPost_ret (v := .tuple #[.int .i64 0, .bool false]) (by simp [results, Try.results14, go_sem]) rfl ⟨rfl, HR.out⟩
  · rw [hm] at HMY
    have HMM := Lib.hid hm
    clear hm
    have e1 : numI false L t = ((if t ∈ L then num L t else 0 : Nat) : Int) := by
      unfold numI fndB insM
      by_cases hin : t ∈ L <;> simp [hin]
    have e2 : fndB false L t = decide (t ∈ L) := by unfold fndB; simp
    rw [← e1, ← e2]
    clear e1 e2
    have HBX := Lib.hid (fun (w' : World) (hb : Below (w.alloc (t.box h)).heap.size (w.alloc (t.box h)) w') => boxed HAR.out HF.out hb)
    obtain ⟨X, hX⟩ : ∃ X, X = numI false L t := ⟨_, rfl⟩
    obtain ⟨Y, hY⟩ : ∃ Y, Y = fndB false L t := ⟨_, rfl⟩
    rw [← hX, ← hY]
    have HX := Lib.hid hX
    have HY := Lib.hid hY
    clear hX hY
    unfold Tm.val Tm.vals at *
    go_enter Try.func14, Try.ntmps14
    go_wp2_with fail
    refine (HMY.out _ (Below.refl _ _)).mono ?_
    rintro e w1 ⟨rfl, b1⟩
    obtain ⟨har1, hat1, hbw1⟩ := HBX.out _ b1
    have HNU := Lib.hid (number_any false A t w1 L _ mo _ _ har1 hat1 HMM.out (by have := may_size' HMM.out; have := HLEN.out; omega))
    have HBW := Lib.hid hbw1
    have hFV : FV false A = .func (.func 35) #[] #[] := rfl
    rw [hFV] at HNU
    clear b1 HMY HBX har1 hat1 hbw1 hFV
    go_wp2_with fail
    refine HNU.out.mono ?_
    rintro e w2 ⟨he, hmv⟩
    rw [← HX.out, ← HY.out] at he
    have HMV := Lib.hid (show Moved A (.slice ao L.length cap) mo L w w2 from Moved.go (RanS.of_below HBW.out) (fun q hq => Or.inl hq) hmv)
    clear hmv
    subst he
    go_wp2_with fail
    exact bodyPost_ret (v := .tuple #[.int .i64 X, .bool Y]) (by simp [results, Try.results14, go_sem]) rfl ⟨rfl, HMV.out⟩
end Go.Proofs.Ytjicdmohnfcflaa

