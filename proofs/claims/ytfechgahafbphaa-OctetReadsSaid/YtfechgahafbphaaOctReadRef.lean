/-
  The document's own reader in memory, and the contracts of its methods.
-/
import Derived.Test.YtfechgahafbphaaOctReadMath
import Derived.Test.YtfechgahafbphaaOctReadNum
namespace Go.Proofs.Ytfechgahafbphaa
open Go.RowKit Oct

/-- Block Q is the document's reader in the state s; its bytes lie elsewhere. -/
structure Oct.Rf (L : Nat) (w : World) (Q : Nat) (ao : Option Addr) (cap : Nat) (s : St) : Prop where
  at_ : s.p ≤ s.bs.length
  small : s.bs.length ≤ 1000000
  box : w.heap[Q]? = some (.cells #[.slice ao s.bs.length cap, .int .i64 s.p, .int .i64 s.err, .int .i64 s.bad] 30 (0, 0))
  row : Row w ao cap s.bs
  off : 0 < s.bs.length → ∀ a, ao = some a → a.block < L
  lq : L ≤ Q

theorem Oct.four_cells' {w : World} {R : Nat} {v0 v1 v2 v3 : Value} {ty : TypeId} {fr : Nat × Nat} (h : w.heap[R]? = some (.cells #[v0, v1, v2, v3] ty fr)) :
    w.cell? ⟨R, 0, none⟩ = some v0 ∧ w.cell? ⟨R, 1, none⟩ = some v1 ∧ w.cell? ⟨R, 2, none⟩ = some v2 ∧ w.cell? ⟨R, 3, none⟩ = some v3 := by
  refine ⟨?_, ?_, ?_, ?_⟩ <;> (simp [World.cell?, h])
theorem Oct.four_free' {w : World} {R : Nat} {v0 v1 v2 v3 : Value} {ty : TypeId} (h : w.heap[R]? = some (.cells #[v0, v1, v2, v3] ty (0, 0))) (i : Nat) : w.frozen? ⟨R, i, none⟩ = false := by
  simp [World.frozen?, h]
theorem Oct.Rf.lt {w : World} {L Q : Nat} {ao : Option Addr} {cap : Nat} {s : St} (h : Rf L w Q ao cap s) : Q < w.heap.size := (Array.getElem?_eq_some_iff.1 h.box).1
theorem Oct.Row.besides {w w' : World} {ao : Option Addr} {cap : Nat} {bs : List UInt8} {row : Option Nat} (h : Row w ao cap bs) (g : w.grownBy w' row) (hr : 0 < bs.length → ∀ a, ao = some a → some a.block ≠ row) : Row w' ao cap bs :=
  ⟨h.len, h.fits, h.nil, fun a ha j u hu => g.cell (h.cell a ha j u hu) (by
    have e : (a.add j).block = a.block := by unfold Addr.add; split <;> rfl
    rw [e]
    refine hr ?_ a ha
    have h0 := (List.getElem?_eq_some_iff.1 hu).1
    rw [cells_length] at h0
    omega)⟩
theorem Oct.Rf.kept {w w' : World} {L Q : Nat} {ao : Option Addr} {cap : Nat} {s : St} {row : Option Nat} (h : Rf L w Q ao cap s) (g : w.grownBy w' row) (hQ : some Q ≠ row) (hr : ∀ k, row = some k → L ≤ k) : Rf L w' Q ao cap s :=
  ⟨h.at_, h.small, by rw [g.block Q h.lt hQ]; exact h.box, h.row.besides g (fun h0 a ha hk => by have := hr _ hk.symm; have := h.off h0 a ha; omega), h.off, h.lq⟩
theorem Oct.Rf.drewN {w : World} {L Q : Nat} {ao : Option Addr} {cap : Nat} {s : St} (h : Rf L w Q ao cap s) (n : Nat) : Rf L (w.drewN n) Q ao cap s :=
  ⟨h.at_, h.small, by simpa using h.box, h.row.drewN n, h.off, h.lq⟩
theorem Oct.Rf.keptAll {w w' : World} {L Q : Nat} {ao : Option Addr} {cap : Nat} {s : St} (h : Rf L w Q ao cap s) (g : Below w.heap.size w w') : Rf L w' Q ao cap s :=
  h.kept (Below.grownBy g none) (by simp) (by simp)

/-- Behind a call that turned the document's reader alone. -/
def Oct.RTurned (L : Nat) (w : World) (Q : Nat) (ao : Option Addr) (cap : Nat) (x : Value) (s : St) (e : Ending) (w' : World) : Prop := e = .returned x ∧ Rf L w' Q ao cap s ∧ w.grownBy w' (some Q)

theorem Oct.grown_set (w : World) (Q k : Nat) (v : Value) : w.grownBy (w.setCell ⟨Q, k, none⟩ v) (some Q) := by
  refine ⟨rfl, rfl, rfl, by simp [World.setCell], fun j _ hj => ?_⟩
  have hj' : j ≠ Q := fun e => hj (by rw [e])
  rw [Below.heap_setCell _ _ _ _ hj']
theorem Oct.Rf.setErr {w : World} {L Q : Nat} {ao : Option Addr} {cap : Nat} {s : St} (h : Rf L w Q ao cap s) (k e : Int) :
    Rf L ((w.setCell ⟨Q, 2, none⟩ (.int .i64 e)).setCell ⟨Q, 3, none⟩ (.int .i64 k)) Q ao cap { s with bad := k, err := e } ∧ w.grownBy ((w.setCell ⟨Q, 2, none⟩ (.int .i64 e)).setCell ⟨Q, 3, none⟩ (.int .i64 k)) (some Q) := by
  have g := grownBy_trans (grown_set w Q 2 (.int .i64 e)) (grown_set _ Q 3 (.int .i64 k))
  have hb := h.box
  refine ⟨⟨h.at_, h.small, ?_, h.row.besides g (fun h0 a ha => by have := h.off h0 a ha; have := h.lq; simp; omega), h.off, h.lq⟩, g⟩
  simp [World.setCell, Array.getElem?_modify, hb]
theorem Oct.Rf.setAt {w : World} {L Q : Nat} {ao : Option Addr} {cap : Nat} {s : St} (h : Rf L w Q ao cap s) (p : Nat) (hp : p ≤ s.bs.length) :
    Rf L (w.setCell ⟨Q, 1, none⟩ (.int .i64 p)) Q ao cap (s.goTo p) ∧ w.grownBy (w.setCell ⟨Q, 1, none⟩ (.int .i64 p)) (some Q) := by
  have g := grown_set w Q 1 (.int .i64 p)
  have hb := h.box
  refine ⟨⟨hp, h.small, ?_, h.row.besides g (fun h0 a ha => by have := h.off h0 a ha; have := h.lq; simp; omega), h.off, h.lq⟩, g⟩
  simp [World.setCell, Array.getElem?_modify, hb, St.goTo]

set_option maxRecDepth 100000 in
set_option maxHeartbeats 1000000 in
theorem rfail_any (w : World) {L : Nat} (Q : Nat) (ao : Option Addr) (cap : Nat) (s : St) (hr : Rf L w Q ao cap s) (k e : Int) :
    Calls Try.prog 24 #[ptr Q, .int .i64 k, .int .i64 e] w (RTurned L w Q ao cap (.tuple #[]) (s.fail k e)) := by
  obtain ⟨c0, c1, c2, c3⟩ := four_cells' hr.box
  have f2 := four_free' hr.box 2
  have f3 := four_free' hr.box 3
  have HR := Lib.hid hr
  clear hr
  by_cases h1 : s.err = 0
  · by_cases h0 : e = 0
    · have hf : s.fail k e = s := by simp [St.fail, h0]
      rw [hf]
      subst h0
      rw [h1] at c2
      clear hf h1
      unfold ptr
      go_enter Try.func24, Try.ntmps24
      go_wp2_with fail
      go_end0
      exact ⟨rfl, HR.out, grownBy_self _ _⟩
    · have hb : (e != 0) = true := by simp [h0]
      have hf : s.fail k e = { s with bad := k, err := e } := by simp [St.fail, h0, h1]
      rw [hf]
      rw [h1] at c2
      clear hf h1 h0
      unfold ptr
      go_enter Try.func24, Try.ntmps24
      go_wp2_with fail
      go_end0
      exact ⟨rfl, HR.out.setErr k e⟩
  · have hb : (s.err == 0) = false := by simp [h1]
    have hf : s.fail k e = s := by simp [St.fail, h1]
    rw [hf]
    clear hf h1
    unfold ptr
    go_enter Try.func24, Try.ntmps24
    go_wp2_with fail
    go_end0
    exact ⟨rfl, HR.out, grownBy_self _ _⟩

set_option maxRecDepth 100000 in
set_option maxHeartbeats 1000000 in
theorem rleft_any (w : World) {L : Nat} (Q : Nat) (ao : Option Addr) (cap : Nat) (s : St) (hr : Rf L w Q ao cap s) :
    Calls Try.prog 28 #[ptr Q] w (JustRead w (.int .i64 ((s.bs.length : Int) - s.p))) := by
  obtain ⟨c0, c1, c2, c3⟩ := four_cells' hr.box
  have ha := hr.at_
  have hs := hr.small
  clear hr
  unfold ptr
  go_enter Try.func28, Try.ntmps28
  go_wp2
  go_quiet (fail)
  go_wp2
  go_ret
  exact ⟨rfl, _, rfl⟩

set_option maxRecDepth 100000 in
set_option maxHeartbeats 2000000 in
theorem rbyte_any (w : World) {L : Nat} (Q : Nat) (ao : Option Addr) (cap : Nat) (s : St) (hr : Rf L w Q ao cap s) :
    Calls Try.prog 20 #[ptr Q] w (RTurned L w Q ao cap (.int .u8 s.byte.1) s.byte.2) := by
  obtain ⟨c0, c1, c2, c3⟩ := four_cells' hr.box
  have HR := Lib.hid hr
  by_cases he : s.err = 0
  · have hsm := hr.small
    have hat := hr.at_
    by_cases hp : s.p < s.bs.length
    · obtain ⟨k1, k2⟩ := hr.setAt (s.p + 1) hp
      obtain ⟨b, off, hao, hcell⟩ := k1.row.place (show 0 < (s.goTo (s.p + 1)).bs.length by show 0 < s.bs.length; omega)
      have hc := hcell s.p hp
      obtain ⟨d0, d1, d2, d3⟩ := four_cells' k1.box
      have f1 := four_free' hr.box 1
      obtain ⟨c, hcc⟩ : ∃ c : Nat, c = (s.bs[s.p]).toNat := ⟨_, rfl⟩
      have e : s.byte = (c, s.goTo (s.p + 1)) := by rw [St.byte, if_neg (by simp [he]), dif_pos hp, hcc]
      rw [e]
      have hc' : (w.setCell ⟨Q, 1, none⟩ (.int .i64 ((s.p + 1 : Nat) : Int))).cell? ⟨b, off + s.p, none⟩ = some (.int .u8 c) := by rw [hcc]; exact hc
      have d0' : (w.setCell ⟨Q, 1, none⟩ (.int .i64 ((s.p + 1 : Nat) : Int))).cell? ⟨Q, 0, none⟩ = some (.slice ao s.bs.length cap) := d0
      have d1' : (w.setCell ⟨Q, 1, none⟩ (.int .i64 ((s.p + 1 : Nat) : Int))).cell? ⟨Q, 1, none⟩ = some (.int .i64 ((s.p + 1 : Nat) : Int)) := d1
      have K1 := Lib.hid k1
      have K2 := Lib.hid k2
      rw [he] at c2
      subst hao
      clear hr hcell hcc e k1 k2 hc d0 d1 d2 d3 he
      simp only [Int.natCast_add, Int.natCast_one] at hc' d0' d1'
      have hcN : ∀ q, ((w.drewN q).setCell ⟨Q, 1, none⟩ (.int .i64 ((s.p : Int) + 1))).cell? ⟨b, off + s.p, none⟩ = some (.int .u8 c) := fun q => hc'
      have hbQ : b ≠ Q := by have h1 := HR.out.off (by omega) _ rfl; have h2 := HR.out.lq; simp only at h1; omega
      have hwp : IntKind.i64.wrap (s.p : Int) = s.p := IntWalk.i64_in _ (by omega)
      unfold ptr
      go_enter Try.func20, Try.ntmps20
      go_wp2
      go_quiet (fail)
      obtain ⟨n1, rfl⟩ : ∃ n, n = nq := ⟨_, rfl⟩
      go_wp2
      go_quiet (fail)
      go_wp2
      go_ret
      refine ⟨rfl, ?_, ?_⟩
      · have := (K1.out.drewN n1)
        rw [Int.natCast_add, Int.natCast_one] at this
        exact this.drewN nq
      · have := K2.out
        rw [Int.natCast_add, Int.natCast_one] at this
        exact grownBy_drewN' (show w.grownBy ((w.drewN n1).setCell ⟨Q, 1, none⟩ (.int .i64 ((s.p : Int) + 1))) (some Q) from ⟨this.os, this.tape, this.output, this.size, this.block⟩)
    · have e : s.byte = (0, s.stop 3) := by rw [St.byte, if_neg (by simp [he]), dif_neg hp]
      rw [e]
      rw [he] at c2
      clear hr e he
      unfold ptr
      go_enter Try.func20, Try.ntmps20
      go_wp2
      go_quiet (fail)
      go_wp2_with (go_at_call 24; refine (rfail_any _ Q _ _ s (HR.out.drewN _) s.p 3).mono ?_; rintro e w' ⟨rfl, hr', hg'⟩)
      go_ret
      exact ⟨rfl, hr', grownBy_drewN hg'⟩
  · have e : s.byte = (0, s) := by rw [St.byte, if_pos he]
    have hb : (s.err != 0) = true := by simp [he]
    rw [e]
    clear he hr e
    unfold ptr
    go_enter Try.func20, Try.ntmps20
    go_wp2
    go_ret
    exact ⟨rfl, HR.out, grownBy_self _ _⟩
end Go.Proofs.Ytfechgahafbphaa
