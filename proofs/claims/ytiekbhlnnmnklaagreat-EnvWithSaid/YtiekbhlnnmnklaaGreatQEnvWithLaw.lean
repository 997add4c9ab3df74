/-
  EnvWith: another environment is what this one would be behind the same Add, and goes its own way; this one stays.
-/
import Derived.Test.YtiekbhlnnmnklaaGreatQEnvMany
import Derived.Test.YtiekbhlnnmnklaaGreatQB13
import Derived.Test.YtiekbhlnnmnklaaGreatQB7
namespace Go.Proofs.YtiekbhlnnmnklaaGreat
open Go.RowKit Go.Shelf Go.Maps Lvl Trm Env

theorem step_bslice {P : Program} {ops : Array Oper} {o : Oper} {a : Act} {w : World} {K : Act → World → Prop} {Q : Exit → Act → World → Prop} {E : Prop} (hw : Region.wanted o (yielded ops a.tmps) = true) (t e : TypeId) (len : Nat) (parts : Array (Nat × Operand)) (ho : o.op = .buildSlice t len parts) (dst : Option Tmp) (hdst : o.dst = dst)
    (cells : Array Value) (hu : P.underlying t = some (.slice e)) (hf : P.builtSlice e len (parts.map fun (i, x) => (i, a.eval x)).toList = some cells)
    (h : K (a.put dst (.slice (some ⟨w.heap.size, 0, none⟩) len len)) (w.alloc (.cells cells e))) : if Region.wanted o (yielded ops a.tmps) = true then Oper.wp P o a w K Q else E := by
  rw [if_pos hw]
  exact wp_bslice t e len parts ho dst hdst cells hu hf h
namespace Env
theorem rem_nat {z : Int} {n : Nat} (h : 0 ≤ z) : ∃ r : Nat, z.tmod ((n : Int) + 1) = (r : Int) ∧ r ≤ n := by
  have h1 := Int.tmod_lt_of_pos z (show (0 : Int) < (n : Int) + 1 by omega)
  have h2 := Int.tmod_nonneg ((n : Int) + 1) h
  exact ⟨(z.tmod ((n : Int) + 1)).toNat, by omega, by omega⟩
theorem Added.facts2 {L M : List Ent} {l : List Inf} (a : Added L l M) (h : ∀ p ∈ L, p.2.1.rules.length ≤ 1000) : (∀ x ∈ l, x.rules.length ≤ 1000) → ∀ p ∈ M, p.2.1.rules.length ≤ 1000 := by
  induction a with
  | nil => exact fun _ => h
  | snoc x b hd h2 ih =>
    intro hr p hp
    rcases List.mem_append.1 hp with hp | hp
    · exact ih (fun y hy => hr y (by simp [hy])) p hp
    · simp at hp; subst hp; exact hr x (by simp)
theorem AddTo.facts2 {L M : List Ent} {l : List Inf} (a : AddTo L l M) (hr : ∀ x ∈ l, x.rules.length ≤ 1000) (h : ∀ p ∈ L, p.2.1.rules.length ≤ 1000) : ∀ p ∈ M, p.2.1.rules.length ≤ 1000 := by
  rcases a with ⟨_, a⟩ | ⟨_, rfl⟩
  · exact a.facts2 h hr
  · exact h
theorem InfRow.sub {B : Nat} {w : World} {b off : Nat} {l : List Inf} {k m : Nat} (h : InfRow B w (some ⟨b, off, none⟩) l) : InfRow B w (some ⟨b, off + k * 25, none⟩) ((l.drop k).take m) := ⟨fun j hj => by
  have hj2 : k + j < l.length := by rw [List.length_take, List.length_drop] at hj; omega
  obtain ⟨b', off', hd, h1, h2, h3, h4⟩ := h.place (k + j) hj2
  injection h1 with h1
  injection h1 with hb ho
  subst hb ho
  have e : ((l.drop k).take m)[j] = l[k + j] := by rw [List.getElem_take, List.getElem_drop]
  refine ⟨b, off + k * 25, hd, rfl, h2, ?_, ?_⟩
  · rw [e, show off + k * 25 + j * 25 = off + (k + j) * 25 by omega]; exact h3
  · rw [e]; exact h4⟩
theorem slice_infos {l : List Inf} {lo : Option Addr} {lc k m : Nat} {w : World} (h1 : (0 : Int) ≤ (k : Int)) (h2 : (k : Int) ≤ (k : Int) + (m : Int)) (h3 : (k : Int) + (m : Int) ≤ (lc : Int)) (h : InfRow w.heap.size w lo l) (hl : k + m ≤ l.length) :
    ∃ (so : Option Addr) (sc : Nat), (∀ W : World, (Instr.slice 22 (.slice lo l.length lc) (some (.int .i64 (k : Int))) (some (.int .i64 ((k : Int) + (m : Int)))) none).run Tryz.prog W = .ok (.slice so m sc) W) ∧ InfRow w.heap.size w so ((l.drop k).take m) := by
  have h4 : (0 : Int) ≤ (k : Int) + (m : Int) := by omega
  have h5 : k ≤ lc := by omega
  have h7 : ((k : Int) + (m : Int)).toNat = k + m := by omega
  by_cases hk : k < lc
  · have h6 : ¬ lc = k := by omega
    cases lo with
    | none =>
      have h0 : l.length = 0 := by
        rcases Nat.eq_zero_or_pos l.length with a | a
        · exact a
        · obtain ⟨_, _, _, q, _⟩ := h.place 0 a
          cases q
      refine ⟨none, lc - k, fun W => ?_, ⟨fun j hj => by rw [List.length_take, List.length_drop] at hj; omega⟩⟩
      have hk0 : k = 0 := by omega
      have hm0 : m = 0 := by omega
      subst hk0 hm0
      simp [go_sem, sliced]
    | some ad =>
      by_cases hm : m = 0
      · subst hm
        refine ⟨some (ad.add (k * 25)), lc - k, fun W => ?_, ⟨fun j hj => by simp at hj⟩⟩
        simp [go_sem, sliced, h5, h6]
      · obtain ⟨b, off, _, q, _⟩ := h.place 0 (by omega)
        injection q with q
        subst q
        refine ⟨some ⟨b, off + k * 25, none⟩, lc - k, fun W => ?_, h.sub⟩
        have h8 : ((k : Int) + (m : Int) ≤ (lc : Int)) = True := eq_true h3
        have h10 : ((k : Int) ≤ (k : Int) + (m : Int)) = True := eq_true h2
        simp [go_sem, sliced, h6, h7, h8, h10, Trm.add_none]
  · have hm0 : m = 0 := by omega
    subst hm0
    have h6 : lc = k := by omega
    refine ⟨lo, lc - k, fun W => ?_, ⟨fun j hj => by simp at hj⟩⟩
    simp [go_sem, sliced, h6]
/-- Two of them, with the same infos. -/
def TwoRel (w0 : World) (ea eb n : Nat) (vi : Value) (wr : World) : Prop := ∃ (k : Nat) (A B : List Ent) (P : Nat → Prop) (moa mob : Option Nat) (va vb : Value), vi = .int .i64 k ∧ k ≤ n ∧ infs A = infs B ∧ (∀ p ∈ A, p.2.1.rules.length ≤ 1000) ∧ (∀ p ∈ B, p.2.1.rules.length ≤ 1000) ∧ Many w0 wr P [⟨ea, A, moa, va⟩, ⟨eb, B, mob, vb⟩]
/-- Behind an Add to each. -/
theorem two_next {w0 W : World} {ea eb : Nat} {A B A' B' : List Ent} {P : Nat → Prop} {moa mob : Option Nat} {va vb : Value} {x : Inf} {k n : Nat} (hk : k < n) (hx : x.rules.length ≤ 1000) (he : infs A = infs B) (hA : ∀ p ∈ A, p.2.1.rules.length ≤ 1000) (hB : ∀ p ∈ B, p.2.1.rules.length ≤ 1000) (h1 : AddTo A [x] A') (h2 : AddTo B [x] B') (h : Many w0 W P [⟨ea, A', moa, va⟩, ⟨eb, B', mob, vb⟩]) : TwoRel w0 ea eb n (.int .i64 ((k : Int) + 1)) W :=
  ⟨k + 1, A', B', P, moa, mob, va, vb, rfl, hk, h1.alike h2 he, h1.facts2 (fun y hy => by simp at hy; subst hy; exact hx) hA, h2.facts2 (fun y hy => by simp at hy; subst hy; exact hx) hB, h⟩
theorem AddTo.none_of {L M : List Ent} {s : ByteArray} {t : Tm} (a : AddTo L [ax s t] M) {k : List UInt8} (h : (lookE L k).isSome = false) (hk : (key s == k) = false) : (lookE M k).isSome = false := by
  rcases a with ⟨_, a⟩ | ⟨_, rfl⟩
  · obtain ⟨b, hd, rfl⟩ := a.one
    have hL : L.find? (fun p => ekey p == k) = none := by unfold lookE at h; simpa using h
    unfold lookE
    rw [List.find?_append, hL]
    have h2 : (ekey (b, fixI L (ax s t), hd) == k) = false := hk
    simp [h2]
  · exact h
theorem cell_stay {W W' : World} {g j : Nat} {u : Value} (h : g < W.heap.size ∧ W.cell? ⟨g, j, none⟩ = some u) (b : Below W.heap.size W W') : g < W'.heap.size ∧ W'.cell? ⟨g, j, none⟩ = some u := by
  refine ⟨Nat.lt_of_lt_of_le h.1 b.size, ?_⟩
  rw [← h.2]
  unfold World.cell?
  rw [b.block g h.1]
def nms (L : List Ent) : List ByteArray := (infs L).map (·.name)
theorem nms_len (L : List Ent) : (nms L).length = L.length := by simp [nms, infs]
/-- A row of strings. -/
def StrRow (W : World) (a : Option Addr) (l : List ByteArray) : Prop := ∀ j (hj : j < l.length), ∃ g, a = some ⟨g, 0, none⟩ ∧ g < W.heap.size ∧ W.cell? ⟨g, j, none⟩ = some (.string l[j])
theorem StrRow.below {W W' : World} {a : Option Addr} {l : List ByteArray} (h : StrRow W a l) (b : Below W.heap.size W W') : StrRow W' a l := fun j hj => by
  obtain ⟨g, h1, h2, h3⟩ := h j hj
  refine ⟨g, h1, Nat.lt_of_lt_of_le h2 b.size, ?_⟩
  rw [← h3]
  unfold World.cell?
  rw [b.block g h2]
theorem list_str {B : Nat} {w : World} {e : Nat} {L : List Ent} {mo : Option Nat} {v : Value} (h : EnvB B w e L mo v) {N : List ByteArray} (hN : N = nms L) :
    Calls Tryz.prog 18 #[.pointer (some ⟨e, 0, none⟩)] w (fun y w' => ∃ a c, y = .returned (.slice a N.length c) ∧ StrRow w' a N ∧ Below w.heap.size w w') := by
  subst hN
  refine (list_any h).mono ?_
  rintro y w' ⟨v', rfl, hr, hb⟩
  obtain ⟨a, c, hv⟩ := row_slice hr
  refine ⟨a, c, by rw [hv, nms_len], fun j hj => ?_, hb⟩
  have hj2 : j < L.length := by rw [nms_len] at hj; exact hj
  obtain ⟨g, cap, hv2, _, hg⟩ := hr.form (by omega)
  refine ⟨g, by rw [hv] at hv2; injection hv2, hg, ?_⟩
  subst hv2
  have h1 := hr.cells (g := g) rfl j (.string (nms L)[j]) (by simp [nms, infs, hj2])
  have e1 : ((⟨g, 0, none⟩ : Addr).add j) = ⟨g, j, none⟩ := by rw [Trm.add_none, Nat.zero_add]
  rw [e1] at h1
  exact h1
/-- Two with the same infos: what stands under the j-th name. -/
theorem two_look {A B : List Ent} {N : List ByteArray} (hN : N = nms A) (h : infs A = infs B) (ha : (A.map ekey).Nodup) (hb : (B.map ekey).Nodup) {j : Nat} (hj : j < N.length) : ∃ x p q, N[j] = x.name ∧ lookE A (key x.name) = some p ∧ lookE B (key x.name) = some q ∧ p.2.1 = x ∧ q.2.1 = x ∧ p ∈ A := by
  subst hN
  have hj2 : j < A.length := by rw [nms_len] at hj; exact hj
  obtain ⟨hj3, e⟩ := infs_get h hj2
  refine ⟨A[j].2.1, A[j], B[j], by simp [nms, infs], lookE_nodup ha j hj2, ?_, rfl, e.symm, List.getElem_mem hj2⟩
  rw [e]
  exact lookE_nodup hb j hj3
def WithRel (w0 : World) (P : Nat → Prop) (X : List EnvR) (ga gb : Option Addr) (N : List ByteArray) (vi : Value) (wr : World) : Prop := ∃ j : Nat, vi = .int .i64 j ∧ j ≤ N.length ∧ Many w0 wr P X ∧ StrRow wr ga N ∧ StrRow wr gb N
end Env

set_option maxRecDepth 100000 in
set_option maxHeartbeats 32000000 in
theorem law_env_with (l : List Inf) (lo : Option Addr) (lc : Nat) (z1 z2 : Int) (w : World) (hrow : InfRow w.heap.size w lo l) (hlc : l.length ≤ lc) (hz1 : 0 ≤ z1) (hz1b : z1 ≤ 255) (hz2 : 0 ≤ z2) (hz2b : z2 ≤ 255) :
    Calls Tryz.prog 4 #[.slice lo l.length lc, .int .u8 z1, .int .u8 z2] w fun e w' => e = .returned (.bool true) ∧ Below w.heap.size w w' := by
  have HROW := Lib.hid hrow
  have HLC := Lib.hid hlc
  obtain ⟨at_, hat, hatl⟩ := rem_nat (n := l.length) hz1
  obtain ⟨mo_, hmo, hmol⟩ := rem_nat (n := l.length - at_) hz2
  have HAT : Hid (at_ ≤ l.length ∧ at_ + mo_ ≤ l.length) := Lib.hid (by omega)
  have hcz1 : IntKind.i64.wrap z1 = z1 := IntWalk.i64_in _ (by omega)
  have hcz2 : IntKind.i64.wrap z2 = z2 := IntWalk.i64_in _ (by omega)
  clear hrow hlc hz1 hz1b hz2 hz2b hatl hmol
  have HKR : ∀ {x : Inf} {h : IHd}, Hid ((Tryz.prog.info? 46).map (·.size) = some (x.vals h).toArray.size) := fun {x h} => Lib.hid infoInf
  have HKL : ∀ {x : Inf} {h : IHd}, Hid ((Tryz.prog.info? 46).map (·.size) = some (x.vals h).length) := fun {x h} => Lib.hid infoInf
  have HKZ : Hid (∀ (x : Inf) (h : IHd), Inf.zeros.size = (x.vals h).toArray.size) := Lib.hid (fun _ _ => rfl)
  have HKO : Hid (∀ (x : Inf) (h : IHd), (x.vals h).toArray.all (·.oneCell') = true) := Lib.hid (fun x h => vals_one x h)
  have HKS : Hid (∀ (x : Inf) (h : IHd), ∀ u ∈ x.vals h, u.oneCell' = true) := Lib.hid (fun x h u hu => by have := vals_one x h; rw [List.all_toArray, List.all_eq_true] at this; exact this u hu)
  go_enter Tryz.func4, Tryz.ntmps4
  go_wp2_with fail
  refine (few_any l lo lc w HROW.out).mono ?_
  rintro y w1 ⟨b, rfl, hfew, b1⟩
  have HFEW := Lib.hid hfew
  have HB1 := Lib.hid b1
  clear b1 hfew
  cases b
  · go_wp2_with fail
    refine (works7_any _).mono ?_
    rintro y wz ⟨rfl, bz⟩
    have HBZ := Lib.hid (Trm.go HB1.out bz)
    clear bz
    go_wp2_with fail
    go_ret
    exact ⟨rfl, HBZ.out⟩
  · have HF := Lib.hid (HFEW.out rfl)
    clear HFEW
    by_cases hmany : (30 : Int) < l.length
    · have hd : decide ((30 : Int) < l.length) = true := by simpa using hmany
      clear hmany
      go_wp2_with fail
      refine (works7_any _).mono ?_
      rintro y wz ⟨rfl, bz⟩
      have HBZ := Lib.hid (Trm.go HB1.out bz)
      clear bz
      go_wp2_with fail
      go_ret
      exact ⟨rfl, HBZ.out⟩
    · have hd : decide ((30 : Int) < l.length) = false := by simpa using hmany
      have HLL : Hid (l.length ≤ 30) := Lib.hid (by omega)
      clear hmany
      go_wp2_with fail
      refine (envNew_any _).mono ?_
      rintro y w2 ⟨rfl, hw2⟩
      have HM2 := Lib.hid (show Many w w2 _ [⟨w1.heap.size, [], none, .slice none 0 0⟩] from hw2 ▸ ((Many.start w).below HB1.out).new)
      obtain ⟨ea, hea⟩ : ∃ q, q = w1.heap.size := ⟨_, rfl⟩
      rw [← hea] at HM2 ⊢
      clear hw2 hea hd
      go_wp2_with fail
      refine (envNew_any _).mono ?_
      rintro y w3 ⟨rfl, hw3⟩
      have hM3 := (show Many w w3 _ ([⟨ea, [], none, .slice none 0 0⟩] ++ [⟨w2.heap.size, [], none, .slice none 0 0⟩]) from hw3 ▸ HM2.out.new)
      obtain ⟨eb, heb⟩ : ∃ q, q = w2.heap.size := ⟨_, rfl⟩
      rw [← heb] at hM3 ⊢
      have H0 : Hid (TwoRel w ea eb at_ (.int .i64 (0 : Nat)) w3) := Lib.hid ⟨0, [], [], _, none, none, _, _, rfl, by omega, rfl, by simp, by simp, hM3⟩
      clear hw3 heb hM3 HM2
      have hs1 : wrap64 ((l.length : Int) + 1) = (l.length : Int) + 1 := IntWalk.wrap64_in _ (by have := HLL.out; omega)
      have hs2 : IntKind.i64.wrap ((l.length : Int) + 1) = (l.length : Int) + 1 := IntWalk.i64_in _ (by have := HLL.out; omega)
      have hs3 : ((l.length : Int) + 1 == 0) = false := by simp; omega
      have hs4 : ((l.length : Int) + 1 = 0) = False := eq_false (by omega)
      have hs5 : ((l.length : Int) + 1 = -1) = False := eq_false (by omega)
      go_upto_region 7 with fail
      have HMO1 := Lib.hid hmo
      have HCZ2 := Lib.hid hcz2
      clear hs1 hs2 hs3 hs4 hs5 hat hmo hcz1 hcz2
      go_loopw [10] (fun vi wr => TwoRel w ea eb at_ vi wr) (fun i _ => at_ - (intOf i).toNat)
      case atStart => exact H0.out
      case round =>
        obtain ⟨k, A, B, P, moa, mob, va, vb, rfl, hk, he, hA, hB, hm⟩ := hrel
        have HM := Lib.hid hm
        have HE := Lib.hid he
        have HRA := Lib.hid hA
        have HRB := Lib.hid hB
        clear hm he hA hB
        by_cases hlt : k < at_
        · have hkl : k < l.length := by have := HAT.out.1; omega
          obtain ⟨b, off, hd, hlo, hb, hrg, hin⟩ := HROW.out.place k hkl
          subst hlo
          obtain ⟨x, hx⟩ : ∃ x, x = l[k] := ⟨_, rfl⟩
          rw [← hx] at hrg hin
          have HX20 : Hid (x.rules.length ≤ 1000) := Lib.hid (by have := (HF.out.2 _ (List.getElem_mem hkl)).1; rw [hx]; omega)
          have HR0 := Lib.hid (range_below hrg HM.out.bel hb)
          have HRL : Hid (b < wr.heap.size) := Lib.hid (Nat.lt_of_lt_of_le hb HM.out.bel.size)
          have HFX := Lib.hid (show FirmI P wr x hd from FirmI.of (hin.below HM.out.bel) HM.out.base HM.out.bel.size)
          have HBW : Hid (b < w.heap.size) := Lib.hid hb
          have HNB : Hid (¬ P b) := Lib.hid (fun a => by have := HM.out.base b a; omega)
          have HLT := Lib.hid hlt
          have HKLT := Lib.hid hkl
          have hwk : wrap64 ((k : Int) + 1) = (k : Int) + 1 := IntWalk.wrap64_in _ (by have := HLL.out; omega)
          have hwk2 : IntKind.i64.wrap ((k : Int) + 1) = (k : Int) + 1 := IntWalk.i64_in _ (by have := HLL.out; omega)
          clear hrg hin hx hb
          have HBD : Hid (Below wr.heap.size wr wr.drew) := Lib.hid (Below.refl _ _).drew
          have HEQ := Lib.hid (addA_alike HE.out [x])
          have HCA := Lib.hid (fun (W : World) (P1 : Nat → Prop) (g : Nat) (hM1 : Many w W P1 [⟨ea, A, moa, va⟩, ⟨eb, B, mob, vb⟩]) (hf : InfFirm P1 W (some ⟨g, 0, none⟩) [x]) => (show Calls Tryz.prog 20 #[.pointer (some ⟨ea, 0, none⟩), .slice (some ⟨g, 0, none⟩) 1 1] W (ManyAdd w P1 [⟨ea, A, moa, va⟩, ⟨eb, B, mob, vb⟩] 0 ⟨ea, A, moa, va⟩ [x] W) from hM1.add (i := 0) (by simp) [x] _ 1 hf (by simp) (fun y hy => by simp at hy; subst hy; exact HX20.out)))
          have HCB := Lib.hid (fun (W : World) (P1 : Nat → Prop) (g : Nat) (A' : List Ent) (mo' : Option Nat) (v' : Value) (hM1 : Many w W P1 [⟨ea, A', mo', v'⟩, ⟨eb, B, mob, vb⟩]) (hf : InfFirm P1 W (some ⟨g, 0, none⟩) [x]) => (show Calls Tryz.prog 20 #[.pointer (some ⟨eb, 0, none⟩), .slice (some ⟨g, 0, none⟩) 1 1] W (ManyAdd w P1 [⟨ea, A', mo', v'⟩, ⟨eb, B, mob, vb⟩] 1 ⟨eb, B, mob, vb⟩ [x] W) from hM1.add (i := 1) (by simp) [x] _ 1 hf (by simp) (fun y hy => by simp at hy; subst hy; exact HX20.out)))
          go_wp2_with fail
          have HKL2 : Hid ((Tryz.prog.info? 46).map (·.size) = some (x.vals hd).length) := HKL
          refine wp_region_held_drew (S := fun w' => w'.rangeAt b (off + k * 25) (x.vals hd)) (by kernel_rfl) (range_below HR0.out HBD.out HRL.out) (fun hHeld => ?_)
          refine wpAnyH_take (i := 0) (v := ?vwi0) rfl (by kernel_rfl) (by kernel_rfl) (by kernel_rfl) (fun _ _ _ h => h) (Or.inl ⟨by rfl, ?hywi0⟩) (by assumption) ?restwi0
          case hywi0 => (intro w hSw; (try dsimp only at hSw); go_simp <;> with_reducible rfl)
          try simp only [List.getElem_toArray, List.getElem_cons_zero, Act.put, List.setIfInBounds_toArray, List.set_cons_zero, List.set_cons_succ]
          refine wpAnyH_take (i := 1) (v := ?vwi1) rfl (by kernel_rfl) (by kernel_rfl) (by kernel_rfl) (fun _ _ _ h => h) (Or.inl ⟨by rfl, ?hywi1⟩) (by assumption) ?restwi1
          case hywi1 => (intro w hSw; (try dsimp only at hSw); go_simp <;> with_reducible rfl)
          try simp only [List.getElem_toArray, List.getElem_cons_succ, List.getElem_cons_zero, Act.put, List.setIfInBounds_toArray, List.set_cons_zero, List.set_cons_succ]
          refine wpAnyH_take (i := 2) (v := ?vwi2) rfl (by kernel_rfl) (by kernel_rfl) (by kernel_rfl) (fun _ _ _ h => h) (Or.inl ⟨by rfl, ?hywi2⟩) (by assumption) ?restwi2
          case hywi2 => (intro w hSw; (try dsimp only at hSw); go_simp <;> with_reducible rfl)
          try simp only [List.getElem_toArray, List.getElem_cons_succ, List.getElem_cons_zero, Act.put, List.setIfInBounds_toArray, List.set_cons_zero, List.set_cons_succ]
          refine wpAnyH_take (i := 3) (v := ?vwi3) rfl (by kernel_rfl) (by kernel_rfl) (by kernel_rfl) (fun _ _ _ h => h) (Or.inl ⟨by rfl, ?hywi3⟩) (by assumption) ?restwi3
          case hywi3 => (intro w hSw; (try dsimp only at hSw); go_simp <;> with_reducible rfl)
          try simp only [List.getElem_toArray, List.getElem_cons_succ, List.getElem_cons_zero, Act.put, List.setIfInBounds_toArray, List.set_cons_zero, List.set_cons_succ]
          refine wpAnyH_take (i := 4) (v := .agg (x.vals hd).toArray) rfl (by kernel_rfl) (by kernel_rfl) (by kernel_rfl) (fun _ _ _ h => h) (yieldsIf_load_mid rfl 46 (.tmp 58) rfl b (off + k * 25) rfl (x.vals hd) _ (fun _ h => h) Tryz.underlying46 rfl HKL2.out) (by assumption) ?_
          try simp only [List.getElem_toArray, List.getElem_cons_succ, List.getElem_cons_zero, Act.put, List.setIfInBounds_toArray, List.set_cons_zero, List.set_cons_succ]
          refine wpAnyH_take (i := 7) (v := ?vwi7) rfl (by kernel_rfl) (by kernel_rfl) (by kernel_rfl) (fun _ _ _ h => h) (Or.inl ⟨by rfl, ?hywi7⟩) (by assumption) ?restwi7
          case hywi7 => (intro w hSw; (try dsimp only at hSw); go_simp <;> with_reducible rfl)
          try simp only [List.getElem_toArray, List.getElem_cons_succ, List.getElem_cons_zero, Act.put, List.setIfInBounds_toArray, List.set_cons_zero, List.set_cons_succ]
          refine wpAnyH_take (i := 8) (v := ?vwi8) rfl (by kernel_rfl) (by kernel_rfl) (by kernel_rfl) (fun _ _ _ h => h) (Or.inl ⟨by rfl, ?hywi8⟩) (by assumption) ?restwi8
          case hywi8 => (intro w hSw; (try dsimp only at hSw); go_simp <;> with_reducible rfl)
          try simp only [List.getElem_toArray, List.getElem_cons_succ, List.getElem_cons_zero, Act.put, List.setIfInBounds_toArray, List.set_cons_zero, List.set_cons_succ]
          refine wpAnyH_take (i := 9) (v := ?vwi9) rfl (by kernel_rfl) (by kernel_rfl) (by kernel_rfl) (fun _ _ _ h => h) (Or.inl ⟨by rfl, ?hywi9⟩) (by assumption) ?restwi9
          case hywi9 => (intro w hSw; (try dsimp only at hSw); go_simp <;> with_reducible rfl)
          try simp only [List.getElem_toArray, List.getElem_cons_succ, List.getElem_cons_zero, Act.put, List.setIfInBounds_toArray, List.set_cons_zero, List.set_cons_succ]
          refine wpAnyH_take (i := 10) (v := ?vwi10) rfl (by kernel_rfl) (by kernel_rfl) (by kernel_rfl) (fun _ _ _ h => h) (Or.inl ⟨by rfl, ?hywi10⟩) (by assumption) ?restwi10
          case hywi10 => (intro w hSw; (try dsimp only at hSw); go_simp <;> with_reducible rfl)
          try simp only [List.getElem_toArray, List.getElem_cons_succ, List.getElem_cons_zero, Act.put, List.setIfInBounds_toArray, List.set_cons_zero, List.set_cons_succ]
          refine wpAnyH_take (i := 11) (v := .agg (x.vals hd).toArray) rfl (by kernel_rfl) (by kernel_rfl) (by kernel_rfl) (fun _ _ _ h => h) (yieldsIf_load_mid rfl 46 (.tmp 65) rfl b (off + k * 25) rfl (x.vals hd) _ (fun _ h => h) Tryz.underlying46 rfl HKL2.out) (by assumption) ?_
          try simp only [List.getElem_toArray, List.getElem_cons_succ, List.getElem_cons_zero, Act.put, List.setIfInBounds_toArray, List.set_cons_zero, List.set_cons_succ]
          obtain ⟨V0, hV0⟩ : ∃ W : World, W = wr.drew := ⟨_, rfl⟩
          have M0 := Lib.hid (show Many w V0 P [⟨ea, A, moa, va⟩, ⟨eb, B, mob, vb⟩] from hV0 ▸ HM.out.below HBD.out)
          have R0 := Lib.hid (show V0.rangeAt b (off + k * 25) (x.vals hd) ∧ b < V0.heap.size from by rw [hV0]; exact ⟨range_below HR0.out HBD.out HRL.out, HRL.out⟩)
          have F0 := Lib.hid (show FirmI P V0 x hd from by rw [hV0]; exact HFX.out.step (RanS.of_below HBD.out))
          rw [← hV0]
          clear hV0
          refine wpAnyH_ready (rs := [5, 12]) (by kernel_rfl) (by simp) ?_
          refine AllReadyH.cons rfl (fun K hK => ?_) (AllReadyH.cons rfl (fun K hK => ?_) AllReadyH.nil)
          · skip
            refine step_bslice rfl 22 46 1 _ rfl (some 60) rfl (x.vals hd).toArray Tryz.underlying22 (by kernel_rfl) ?_
            obtain ⟨V1, hV⟩ : ∃ W, W = V0.alloc (.cells (x.vals hd).toArray 46) := ⟨_, rfl⟩
            obtain ⟨g1, hg⟩ : ∃ g, g = V0.heap.size := ⟨_, rfl⟩
            have hb : Below V0.heap.size V0 V1 := hV ▸ below_one _ _
            have M1 := Lib.hid (M0.out.below hb)
            have R1 := Lib.hid (show V1.rangeAt b (off + k * 25) (x.vals hd) ∧ b < V1.heap.size from ⟨range_below R0.out.1 hb R0.out.2, Nat.lt_of_lt_of_le R0.out.2 hb.size⟩)
            have F1 := Lib.hid (F0.out.step (RanS.of_below hb))
            have S1 := Lib.hid (show InfFirm P V1 (some ⟨g1, 0, none⟩) [x] from by rw [hV, hg]; exact one_row F0.out M0.out.lt _)
            rw [← hV, ← hg]
            clear hV hg hb
            refine hK.out _ _ R1.out.1 (fun hHeld => ?_)
            clear hK K
            try simp only [Act.put, List.setIfInBounds_toArray, List.set_cons_zero, List.set_cons_succ]
            refine wpAnyH_ready (rs := [6, 12]) (by kernel_rfl) (by simp) ?_
            refine AllReadyH.cons rfl (fun K hK => ?_) (AllReadyH.cons rfl (fun K hK => ?_) AllReadyH.nil)
            · skip
              go_simp
              refine (HCA.out V1 P g1 M1.out S1.out).mono ?_
              rintro y V2 ⟨rfl, L2, mo2, v2, P2, ht, hm, hs⟩
              have TT2 := Lib.hid ht
              have M2 := Lib.hid hm
              have R2 := Lib.hid (show V2.rangeAt b (off + k * 25) (x.vals hd) ∧ b < V2.heap.size from ⟨range_ran R1.out.1 hs.ran R1.out.2 (fun a => by have := M1.out.base b a; have := HBW.out; omega), Nat.lt_of_lt_of_le R1.out.2 hs.size⟩)
              have F2 := Lib.hid (hs.inf F1.out)
              rw [HEQ.out]
              clear ht hm hs
              refine hK.out _ _ R2.out.1 (fun hHeld => ?_)
              clear hK K
              try simp only [List.getElem_toArray, List.getElem_cons_succ, List.getElem_cons_zero, Act.put, List.setIfInBounds_toArray, List.set_cons_zero, List.set_cons_succ]
              refine wpAnyH_ready (rs := [12]) (by kernel_rfl) (by simp) ?_
              refine AllReadyH.cons rfl (fun K hK => ?_) AllReadyH.nil
              refine step_bslice rfl 22 46 1 _ rfl (some 67) rfl (x.vals hd).toArray Tryz.underlying22 (by kernel_rfl) ?_
              obtain ⟨V3, hV⟩ : ∃ W, W = V2.alloc (.cells (x.vals hd).toArray 46) := ⟨_, rfl⟩
              obtain ⟨g3, hg⟩ : ∃ g, g = V2.heap.size := ⟨_, rfl⟩
              have hb : Below V2.heap.size V2 V3 := hV ▸ below_one _ _
              have M3 := Lib.hid (M2.out.below hb)
              have R3 := Lib.hid (show V3.rangeAt b (off + k * 25) (x.vals hd) ∧ b < V3.heap.size from ⟨range_below R2.out.1 hb R2.out.2, Nat.lt_of_lt_of_le R2.out.2 hb.size⟩)
              have F3 := Lib.hid (F2.out.step (RanS.of_below hb))
              have S3 := Lib.hid (show InfFirm P2 V3 (some ⟨g3, 0, none⟩) [x] from by rw [hV, hg]; exact one_row F2.out M2.out.lt _)
              rw [← hV, ← hg]
              clear hV hg hb
              refine hK.out _ _ R3.out.1 (fun hHeld => ?_)
              clear hK K
              try simp only [Act.put, List.setIfInBounds_toArray, List.set_cons_zero, List.set_cons_succ]
              refine wpAnyH_ready (rs := [13]) (by kernel_rfl) (by simp) ?_
              refine AllReadyH.cons rfl (fun K hK => ?_) AllReadyH.nil
              go_simp
              refine (HCB.out V3 P2 g3 L2 mo2 v2 M3.out S3.out).mono ?_
              rintro y V4 ⟨rfl, L4, mo4, v4, P4, ht, hm, hs⟩
              have TT4 := Lib.hid ht
              have M4 := Lib.hid hm
              have R4 := Lib.hid (show V4.rangeAt b (off + k * 25) (x.vals hd) ∧ b < V4.heap.size from ⟨range_ran R3.out.1 hs.ran R3.out.2 (fun a => by have := M3.out.base b a; have := HBW.out; omega), Nat.lt_of_lt_of_le R3.out.2 hs.size⟩)
              have F4 := Lib.hid (hs.inf F3.out)
              clear ht hm hs
              refine hK.out _ _ R4.out.1 (fun hHeld => ?_)
              clear hK K
              skip
              refine wpAnyH_take (i := 14) (v := ?v145) rfl (by kernel_rfl) (by kernel_rfl) (by kernel_rfl) (fun _ _ _ h => h) (Or.inl ⟨by rfl, ?hy145⟩) (by assumption) ?rest145
              case hy145 => (intro w hSw; (try dsimp only at hSw); go_simp <;> with_reducible rfl)
              try simp only [List.getElem_toArray, List.getElem_cons_succ, List.getElem_cons_zero, Act.put, List.setIfInBounds_toArray, List.set_cons_zero, List.set_cons_succ]
              refine wpAnyH_done (by kernel_rfl) ?_ _
              have HNX := Lib.hid (two_next HLT.out HX20.out HE.out HRA.out HRB.out TT2.out TT4.out M4.out)
              go_wp2_with fail
              go_roundw
              case rel => first | exact HNX.out | (rw [hwk]; exact HNX.out)
              case measure => first | exact less_step rfl HLT.out | exact less_step hwk HLT.out
            · skip
              refine step_bslice rfl 22 46 1 _ rfl (some 67) rfl (x.vals hd).toArray Tryz.underlying22 (by kernel_rfl) ?_
              obtain ⟨V6, hV⟩ : ∃ W, W = V1.alloc (.cells (x.vals hd).toArray 46) := ⟨_, rfl⟩
              obtain ⟨g6, hg⟩ : ∃ g, g = V1.heap.size := ⟨_, rfl⟩
              have hb : Below V1.heap.size V1 V6 := hV ▸ below_one _ _
              have M6 := Lib.hid (M1.out.below hb)
              have R6 := Lib.hid (show V6.rangeAt b (off + k * 25) (x.vals hd) ∧ b < V6.heap.size from ⟨range_below R1.out.1 hb R1.out.2, Nat.lt_of_lt_of_le R1.out.2 hb.size⟩)
              have F6 := Lib.hid (F1.out.step (RanS.of_below hb))
              have S6 := Lib.hid (show InfFirm P V6 (some ⟨g6, 0, none⟩) [x] from by rw [hV, hg]; exact one_row F1.out M1.out.lt _)
              have T6 := Lib.hid (S1.out.turn (RanS.of_below hb) (fun _ a => Or.inl a))
              rw [← hV, ← hg]
              clear hV hg hb
              refine hK.out _ _ R6.out.1 (fun hHeld => ?_)
              clear hK K
              try simp only [Act.put, List.setIfInBounds_toArray, List.set_cons_zero, List.set_cons_succ]
              refine wpAnyH_ready (rs := [6]) (by kernel_rfl) (by simp) ?_
              refine AllReadyH.cons rfl (fun K hK => ?_) AllReadyH.nil
              go_simp
              refine (HCA.out V6 P g1 M6.out T6.out).mono ?_
              rintro y V7 ⟨rfl, L7, mo7, v7, P7, ht, hm, hs⟩
              have TT7 := Lib.hid ht
              have M7 := Lib.hid hm
              have R7 := Lib.hid (show V7.rangeAt b (off + k * 25) (x.vals hd) ∧ b < V7.heap.size from ⟨range_ran R6.out.1 hs.ran R6.out.2 (fun a => by have := M6.out.base b a; have := HBW.out; omega), Nat.lt_of_lt_of_le R6.out.2 hs.size⟩)
              have F7 := Lib.hid (hs.inf F6.out)
              rw [HEQ.out]
              have T7 := Lib.hid (hs.infs S6.out)
              clear ht hm hs
              refine hK.out _ _ R7.out.1 (fun hHeld => ?_)
              clear hK K
              try simp only [List.getElem_toArray, List.getElem_cons_succ, List.getElem_cons_zero, Act.put, List.setIfInBounds_toArray, List.set_cons_zero, List.set_cons_succ]
              refine wpAnyH_ready (rs := [13]) (by kernel_rfl) (by simp) ?_
              refine AllReadyH.cons rfl (fun K hK => ?_) AllReadyH.nil
              go_simp
              refine (HCB.out V7 P7 g6 L7 mo7 v7 M7.out T7.out).mono ?_
              rintro y V8 ⟨rfl, L8, mo8, v8, P8, ht, hm, hs⟩
              have TT8 := Lib.hid ht
              have M8 := Lib.hid hm
              have R8 := Lib.hid (show V8.rangeAt b (off + k * 25) (x.vals hd) ∧ b < V8.heap.size from ⟨range_ran R7.out.1 hs.ran R7.out.2 (fun a => by have := M7.out.base b a; have := HBW.out; omega), Nat.lt_of_lt_of_le R7.out.2 hs.size⟩)
              have F8 := Lib.hid (hs.inf F7.out)
              clear ht hm hs
              refine hK.out _ _ R8.out.1 (fun hHeld => ?_)
              clear hK K
              skip
              refine wpAnyH_take (i := 14) (v := ?v149) rfl (by kernel_rfl) (by kernel_rfl) (by kernel_rfl) (fun _ _ _ h => h) (Or.inl ⟨by rfl, ?hy149⟩) (by assumption) ?rest149
              case hy149 => (intro w hSw; (try dsimp only at hSw); go_simp <;> with_reducible rfl)
              try simp only [List.getElem_toArray, List.getElem_cons_succ, List.getElem_cons_zero, Act.put, List.setIfInBounds_toArray, List.set_cons_zero, List.set_cons_succ]
              refine wpAnyH_done (by kernel_rfl) ?_ _
              have HNX := Lib.hid (two_next HLT.out HX20.out HE.out HRA.out HRB.out TT7.out TT8.out M8.out)
              go_wp2_with fail
              go_roundw
              case rel => first | exact HNX.out | (rw [hwk]; exact HNX.out)
              case measure => first | exact less_step rfl HLT.out | exact less_step hwk HLT.out
          · skip
            refine step_bslice rfl 22 46 1 _ rfl (some 67) rfl (x.vals hd).toArray Tryz.underlying22 (by kernel_rfl) ?_
            obtain ⟨V10, hV⟩ : ∃ W, W = V0.alloc (.cells (x.vals hd).toArray 46) := ⟨_, rfl⟩
            obtain ⟨g10, hg⟩ : ∃ g, g = V0.heap.size := ⟨_, rfl⟩
            have hb : Below V0.heap.size V0 V10 := hV ▸ below_one _ _
            have M10 := Lib.hid (M0.out.below hb)
            have R10 := Lib.hid (show V10.rangeAt b (off + k * 25) (x.vals hd) ∧ b < V10.heap.size from ⟨range_below R0.out.1 hb R0.out.2, Nat.lt_of_lt_of_le R0.out.2 hb.size⟩)
            have F10 := Lib.hid (F0.out.step (RanS.of_below hb))
            have S10 := Lib.hid (show InfFirm P V10 (some ⟨g10, 0, none⟩) [x] from by rw [hV, hg]; exact one_row F0.out M0.out.lt _)
            rw [← hV, ← hg]
            clear hV hg hb
            refine hK.out _ _ R10.out.1 (fun hHeld => ?_)
            clear hK K
            try simp only [Act.put, List.setIfInBounds_toArray, List.set_cons_zero, List.set_cons_succ]
            refine wpAnyH_ready (rs := [5]) (by kernel_rfl) (by simp) ?_
            refine AllReadyH.cons rfl (fun K hK => ?_) AllReadyH.nil
            refine step_bslice rfl 22 46 1 _ rfl (some 60) rfl (x.vals hd).toArray Tryz.underlying22 (by kernel_rfl) ?_
            obtain ⟨V11, hV⟩ : ∃ W, W = V10.alloc (.cells (x.vals hd).toArray 46) := ⟨_, rfl⟩
            obtain ⟨g11, hg⟩ : ∃ g, g = V10.heap.size := ⟨_, rfl⟩
            have hb : Below V10.heap.size V10 V11 := hV ▸ below_one _ _
            have M11 := Lib.hid (M10.out.below hb)
            have R11 := Lib.hid (show V11.rangeAt b (off + k * 25) (x.vals hd) ∧ b < V11.heap.size from ⟨range_below R10.out.1 hb R10.out.2, Nat.lt_of_lt_of_le R10.out.2 hb.size⟩)
            have F11 := Lib.hid (F10.out.step (RanS.of_below hb))
            have S11 := Lib.hid (show InfFirm P V11 (some ⟨g11, 0, none⟩) [x] from by rw [hV, hg]; exact one_row F10.out M10.out.lt _)
            have T11 := Lib.hid (S10.out.turn (RanS.of_below hb) (fun _ a => Or.inl a))
            rw [← hV, ← hg]
            clear hV hg hb
            refine hK.out _ _ R11.out.1 (fun hHeld => ?_)
            clear hK K
            try simp only [Act.put, List.setIfInBounds_toArray, List.set_cons_zero, List.set_cons_succ]
            refine wpAnyH_ready (rs := [6]) (by kernel_rfl) (by simp) ?_
            refine AllReadyH.cons rfl (fun K hK => ?_) AllReadyH.nil
            go_simp
            refine (HCA.out V11 P g11 M11.out S11.out).mono ?_
            rintro y V12 ⟨rfl, L12, mo12, v12, P12, ht, hm, hs⟩
            have TT12 := Lib.hid ht
            have M12 := Lib.hid hm
            have R12 := Lib.hid (show V12.rangeAt b (off + k * 25) (x.vals hd) ∧ b < V12.heap.size from ⟨range_ran R11.out.1 hs.ran R11.out.2 (fun a => by have := M11.out.base b a; have := HBW.out; omega), Nat.lt_of_lt_of_le R11.out.2 hs.size⟩)
            have F12 := Lib.hid (hs.inf F11.out)
            rw [HEQ.out]
            have T12 := Lib.hid (hs.infs T11.out)
            clear ht hm hs
            refine hK.out _ _ R12.out.1 (fun hHeld => ?_)
            clear hK K
            try simp only [List.getElem_toArray, List.getElem_cons_succ, List.getElem_cons_zero, Act.put, List.setIfInBounds_toArray, List.set_cons_zero, List.set_cons_succ]
            refine wpAnyH_ready (rs := [13]) (by kernel_rfl) (by simp) ?_
            refine AllReadyH.cons rfl (fun K hK => ?_) AllReadyH.nil
            go_simp
            refine (HCB.out V12 P12 g10 L12 mo12 v12 M12.out T12.out).mono ?_
            rintro y V13 ⟨rfl, L13, mo13, v13, P13, ht, hm, hs⟩
            have TT13 := Lib.hid ht
            have M13 := Lib.hid hm
            have R13 := Lib.hid (show V13.rangeAt b (off + k * 25) (x.vals hd) ∧ b < V13.heap.size from ⟨range_ran R12.out.1 hs.ran R12.out.2 (fun a => by have := M12.out.base b a; have := HBW.out; omega), Nat.lt_of_lt_of_le R12.out.2 hs.size⟩)
            have F13 := Lib.hid (hs.inf F12.out)
            clear ht hm hs
            refine hK.out _ _ R13.out.1 (fun hHeld => ?_)
            clear hK K
            skip
            refine wpAnyH_take (i := 14) (v := ?v1414) rfl (by kernel_rfl) (by kernel_rfl) (by kernel_rfl) (fun _ _ _ h => h) (Or.inl ⟨by rfl, ?hy1414⟩) (by assumption) ?rest1414
            case hy1414 => (intro w hSw; (try dsimp only at hSw); go_simp <;> with_reducible rfl)
            try simp only [List.getElem_toArray, List.getElem_cons_succ, List.getElem_cons_zero, Act.put, List.setIfInBounds_toArray, List.set_cons_zero, List.set_cons_succ]
            refine wpAnyH_done (by kernel_rfl) ?_ _
            have HNX := Lib.hid (two_next HLT.out HX20.out HE.out HRA.out HRB.out TT12.out TT13.out M13.out)
            go_wp2_with fail
            go_roundw
            case rel => first | exact HNX.out | (rw [hwk]; exact HNX.out)
            case measure => first | exact less_step rfl HLT.out | exact less_step hwk HLT.out
        · have hke : k = at_ := by omega
          subst hke
          have HLA : Hid (A.length ≤ 4096) := Lib.hid (HM.out.env _ (List.mem_cons_self ..)).env.few
          have hn1 : ((l.length - k : Nat) : Int) = (l.length : Int) - (k : Int) := by have := HAT.out.1; omega
          clear hlt
          have hq1 : wrap64 ((l.length : Int) - (k : Int)) = (l.length : Int) - (k : Int) := IntWalk.wrap64_in _ (by have := HLL.out; have := HAT.out; omega)
          have hq2 : IntKind.i64.wrap ((l.length : Int) - (k : Int)) = (l.length : Int) - (k : Int) := IntWalk.i64_in _ (by have := HLL.out; have := HAT.out; omega)
          have hq3 : wrap64 ((l.length : Int) - (k : Int) + 1) = (l.length : Int) - (k : Int) + 1 := IntWalk.wrap64_in _ (by have := HLL.out; have := HAT.out; omega)
          have hq4 : IntKind.i64.wrap ((l.length : Int) - (k : Int) + 1) = (l.length : Int) - (k : Int) + 1 := IntWalk.i64_in _ (by have := HLL.out; have := HAT.out; omega)
          have hq5 : wrap64 ((k : Int) + (mo_ : Int)) = (k : Int) + (mo_ : Int) := IntWalk.wrap64_in _ (by have := HLL.out; have := HAT.out; omega)
          have hq6 : IntKind.i64.wrap ((k : Int) + (mo_ : Int)) = (k : Int) + (mo_ : Int) := IntWalk.i64_in _ (by have := HLL.out; have := HAT.out; omega)
          have hq7 : ((l.length : Int) - (k : Int) + 1 == 0) = false := by have := HAT.out.1; simp; omega
          have hq8 : ((l.length : Int) - (k : Int) + 1 = 0) = False := eq_false (by have := HAT.out.1; omega)
          have hq9 : ((l.length : Int) - (k : Int) + 1 = -1) = False := eq_false (by have := HAT.out.1; omega)
          have hmo := HMO1.out
          rw [hn1] at hmo
          have hcz2 := HCZ2.out
          clear hn1
          go_upto_region 12 with fail
          clear hq1 hq2 hq3 hq4 hq5 hq6 hq7 hq8 hq9 hmo hcz2
          have HLSA := Lib.hid (show Calls Tryz.prog 18 #[.pointer (some ⟨ea, 0, none⟩)] wr (fun y w' => ∃ a c, y = .returned (.slice a A.length c) ∧ Below wr.heap.size wr w') from (list_any (HM.out.env _ (List.mem_cons_self ..)).env).mono (fun y w' h => by
            obtain ⟨v', rfl, hr, hb⟩ := h
            obtain ⟨a, c, rfl⟩ := row_slice hr
            exact ⟨a, c, rfl, hb⟩))
          go_wp2_with fail
          refine HLSA.out.mono ?_
          rintro y w4 ⟨a4, c4, rfl, b4⟩
          have HM4 := Lib.hid (HM.out.below b4)
          clear b4 HM HLSA
          have hsl1 : (0 : Int) ≤ (k : Int) := by omega
          have hsl2 : (k : Int) ≤ (k : Int) + (mo_ : Int) := by omega
          have hsl3 : (k : Int) + (mo_ : Int) ≤ (lc : Int) := by have := HAT.out.2; have := HLC.out; omega
          obtain ⟨so, sc, hso, hsub⟩ : ∃ (so : Option Addr) (sc : Nat), (∀ W : World, (Instr.slice 22 (.slice lo l.length lc) (some (.int .i64 (k : Int))) (some (.int .i64 ((k : Int) + (mo_ : Int)))) none).run Tryz.prog W = .ok (.slice so mo_ sc) W) ∧ InfRow w.heap.size w so ((l.drop k).take mo_) := slice_infos hsl1 hsl2 hsl3 HROW.out HAT.out.2
          have HSUB := Lib.hid hsub
          have hlen : ((l.drop k).take mo_).length = mo_ := by rw [List.length_take, List.length_drop]; have := HAT.out.2; omega
          have HLEN := Lib.hid hlen
          clear hsl1 hsl2 hsl3 hsub hlen
          obtain ⟨S, hS⟩ : ∃ S, S = (l.drop k).take mo_ := ⟨_, rfl⟩
          rw [← hS] at HSUB HLEN
          have HSR : Hid (∀ x ∈ S, x.rules.length ≤ 1000) := Lib.hid (fun x hx => by have := (HF.out.2 x (by rw [hS] at hx; exact List.mem_of_mem_drop (List.mem_of_mem_take hx))).1; omega)
          have HSL : Hid (S.length ≤ 1000000) := Lib.hid (by have := HLEN.out; have := HAT.out.2; have := HLL.out; omega)
          have HWI := Lib.hid (show Calls Tryz.prog 19 #[.pointer (some ⟨ea, 0, none⟩), .slice so mo_ sc] w4 (ManyWith w P [⟨ea, A, moa, va⟩, ⟨eb, B, mob, vb⟩] ⟨ea, A, moa, va⟩ S w4) from HLEN.out ▸ HM4.out.with_ (i := 0) (by simp) S so sc (InfFirm.of (HSUB.out.below HM4.out.bel) HM4.out.base HM4.out.bel.size) HSL.out HSR.out)
          clear hS
          go_wp2_with fail
          refine HWI.out.mono ?_
          rintro y w5 hwith
          have HAS := Lib.hid (addA_alike HE.out S)
          rcases hwith with ⟨hne, rfl, hm5, hb5⟩ | ⟨hz, e', M, mc, vc, P5, rfl, hadd, hm5, hb5, hw5, ho5⟩
          · have HM5 := Lib.hid hm5
            have HAD := Lib.hid (show Calls Tryz.prog 20 #[.pointer (some ⟨eb, 0, none⟩), .slice so mo_ sc] w5 (ManyAdd w P [⟨ea, A, moa, va⟩, ⟨eb, B, mob, vb⟩] 1 ⟨eb, B, mob, vb⟩ S w5) from HLEN.out ▸ HM5.out.add (i := 1) (by simp) S so sc (InfFirm.of (HSUB.out.below HM5.out.bel) HM5.out.base HM5.out.bel.size) HSL.out HSR.out)
            obtain ⟨zc, hzc⟩ : ∃ q, q = addA A S := ⟨_, rfl⟩
            have HZC := Lib.hid hzc
            have hne2 : zc ≠ 0 := by rw [hzc]; exact hne
            have hz1 : (zc == 0) = false := by simpa using hne2
            have hz2 : (zc != 0) = true := by simpa using hne2
            dsimp only
            rw [← hzc]
            clear hne hzc hm5 hb5 hne2
            go_wp2_with fail
            refine HAD.out.mono ?_
            rintro y w6 ⟨rfl, B6, mo6, v6, P6, ht6, hm6, hs6⟩
            have HM6 := Lib.hid (show Many w w6 P6 [⟨ea, A, moa, va⟩, ⟨eb, B6, mo6, v6⟩] from hm6)
            dsimp only
            rw [← HAS.out, ← HZC.out]
            clear ht6 hm6 hs6
            have HLSB := Lib.hid (show Calls Tryz.prog 18 #[.pointer (some ⟨ea, 0, none⟩)] w6 (fun y w' => ∃ a c, y = .returned (.slice a A.length c) ∧ Below w6.heap.size w6 w') from (list_any (HM6.out.env _ (List.mem_cons_self ..)).env).mono (fun y w' h => by
              obtain ⟨v', rfl, hr, hb⟩ := h
              obtain ⟨a, c, rfl⟩ := row_slice hr
              exact ⟨a, c, rfl, hb⟩))
            go_wp2_with fail
            refine HLSB.out.mono ?_
            rintro y w7 ⟨a7, c7, rfl, b7⟩
            have HB7 := Lib.hid (Trm.go HM6.out.bel b7)
            clear b7
            go_wp2_with fail
            refine (works7_any _).mono ?_
            rintro y wz ⟨rfl, bz⟩
            have HBZ := Lib.hid (Trm.go HB7.out bz)
            clear bz
            go_wp2_with fail
            go_ret
            exact ⟨rfl, HBZ.out⟩
          · have HADD := Lib.hid hadd
            have HM5 := Lib.hid (show Many w w5 P5 [⟨ea, A, moa, va⟩, ⟨eb, B, mob, vb⟩, ⟨e', M, mc, vc⟩] from hm5)
            have HAD := Lib.hid (show Calls Tryz.prog 20 #[.pointer (some ⟨eb, 0, none⟩), .slice so mo_ sc] w5 (ManyAdd w P5 [⟨ea, A, moa, va⟩, ⟨eb, B, mob, vb⟩, ⟨e', M, mc, vc⟩] 1 ⟨eb, B, mob, vb⟩ S w5) from HLEN.out ▸ HM5.out.add (i := 1) (by simp) S so sc (InfFirm.of (HSUB.out.below HM5.out.bel) HM5.out.base HM5.out.bel.size) HSL.out HSR.out)
            have HZ0 := Lib.hid (show addA B S = 0 from by rw [← HAS.out]; exact hz)
            clear hz hadd hm5 hb5 hw5 ho5
            dsimp only
            go_wp2_with fail
            refine HAD.out.mono ?_
            rintro y w6 ⟨rfl, B6, mo6, v6, P6, ht6, hm6, hs6⟩
            have HM6 := Lib.hid (show Many w w6 P6 [⟨ea, A, moa, va⟩, ⟨eb, B6, mo6, v6⟩, ⟨e', M, mc, vc⟩] from hm6)
            have HIN := Lib.hid (show infs M = infs B6 from HADD.out.alike (ht6.yes HZ0.out) HE.out)
            have HR0 := HRA
            have HR1 := Lib.hid (ht6.facts2 HSR.out HRB.out)
            have HR2 := Lib.hid (HADD.out.facts2 HRA.out HSR.out)
            dsimp only
            rw [HZ0.out]
            clear ht6 hm6 hs6
            have HLSB := Lib.hid (show Calls Tryz.prog 18 #[.pointer (some ⟨ea, 0, none⟩)] w6 (fun y w' => ∃ a c, y = .returned (.slice a A.length c) ∧ Below w6.heap.size w6 w') from (list_any (HM6.out.env _ (List.mem_cons_self ..)).env).mono (fun y w' h => by
              obtain ⟨v', rfl, hr, hb⟩ := h
              obtain ⟨a, c, rfl⟩ := row_slice hr
              exact ⟨a, c, rfl, hb⟩))
            go_wp2_with fail
            refine HLSB.out.mono ?_
            rintro y w7 ⟨a7, c7, rfl, b7⟩
            have HM7 := Lib.hid (HM6.out.below b7)
            clear b7 HM6 HLSB HAD HWI HM5
            go_wp2_with fail
            have HEV8 := Lib.hid (HM7.out.env ⟨e', M, mc, vc⟩ (List.mem_cons_of_mem _ (List.mem_cons_of_mem _ (List.mem_cons_self ..))))
            refine (findP_any HEV8.out ⟨#[111, 110, 101, 39]⟩ (by decide) HR2.out).mono ?_
            intro y v8 hfd
            obtain ⟨z8, h8, b8, rfl, q8, hbb8, _⟩ := hfd.two
            have HBB8 := Lib.hid hbb8
            have HQ8 := Lib.hid (HM7.out.below q8)
            clear hfd q8 hbb8
            dsimp only
            go_upto_region 20 with (refine wpList_store_row rfl 46 (.tmp 16) (.tmp 121) rfl v8.heap.size _ rfl rfl 46 Inf.zeros (World.alloc_heap_new _ _) HKR.out (HKZ.out _ _) (HKO.out _ _) ?_)
            rw [World.setRow_alloc_new]
            obtain ⟨W8, hW⟩ : ∃ W, W = v8.alloc (.cells (z8.vals h8).toArray 46) := ⟨_, rfl⟩
            have HM8 := Lib.hid (HQ8.out.below (show Below v8.heap.size v8 W8 from hW ▸ below_one _ _))
            rw [← hW]
            clear hW HQ8
            go_wp2_with fail
            have HEV9 := Lib.hid (HM8.out.env ⟨ea, A, moa, va⟩ (List.mem_cons_self ..))
            refine (findP_any HEV9.out ⟨#[116, 119, 111, 39]⟩ (by decide) HR0.out).mono ?_
            intro y v9 hfd
            obtain ⟨z9, h9, b9, rfl, q9, hbb9, _⟩ := hfd.two
            have HBB9 := Lib.hid hbb9
            have HQ9 := Lib.hid (HM8.out.below q9)
            clear hfd q9 hbb9
            dsimp only
            go_upto_region 21 with (refine wpList_store_row rfl 46 (.tmp 18) (.tmp 126) rfl v9.heap.size _ rfl rfl 46 Inf.zeros (World.alloc_heap_new _ _) HKR.out (HKZ.out _ _) (HKO.out _ _) ?_)
            rw [World.setRow_alloc_new]
            obtain ⟨W9, hW⟩ : ∃ W, W = v9.alloc (.cells (z9.vals h9).toArray 46) := ⟨_, rfl⟩
            have HM9 := Lib.hid (HQ9.out.below (show Below v9.heap.size v9 W9 from hW ▸ below_one _ _))
            rw [← hW]
            clear hW HQ9
            cases b8
            · cases b9
              · skip
                go_wp2_with fail
                refine (SE_any _).mono ?_
                rintro y s11 ⟨hS11, rfl, b11, f11⟩
                have HS11 := Lib.hid (HM9.out.below b11)
                have FS11 := Lib.hid (ax_firm (s := ⟨#[111, 110, 101, 39]⟩) (by decide) (f11 P6 HM9.out.lt))
                have HAD11 := Lib.hid (show Calls Tryz.prog 20 #[.pointer (some ⟨ea, 0, none⟩), .slice (some ⟨s11.heap.size, 0, none⟩) 1 1] (s11.alloc (.cells ((ax ⟨#[111, 110, 101, 39]⟩ tS).vals { zIHd with ty := hS11 }).toArray 46)) (ManyAdd w P6 [⟨ea, A, moa, va⟩, ⟨eb, B6, mo6, v6⟩, ⟨e', M, mc, vc⟩] 0 ⟨ea, A, moa, va⟩ [ax ⟨#[111, 110, 101, 39]⟩ tS] s11) from HS11.out.addOne (i := 0) (by simp) FS11.out (by decide))
                clear b11 f11
                go_wp2_with (first
                  | (refine wpList_buildTo rfl 46 _ rfl (some 135) rfl ((ax ⟨#[111, 110, 101, 39]⟩ tS).vals { zIHd with ty := hS11 }).toArray (by kernel_rfl) ?_)
                  | (refine Go.Great.wpList_buildSliceTo rfl 22 46 1 _ rfl s11.heap.size rfl (some 136) rfl Tryz.underlying22 ((ax ⟨#[111, 110, 101, 39]⟩ tS).vals { zIHd with ty := hS11 }).toArray (by kernel_rfl) ?_))
                refine HAD11.out.mono ?_
                rintro y w11 ⟨rfl, L11, mo11, v11, P11, ht11, hm11, hs11⟩
                have HT11 := Lib.hid ht11
                have HM11 := Lib.hid (show Many w w11 P11 [⟨ea, L11, mo11, v11⟩, ⟨eb, B6, mo6, v6⟩, ⟨e', M, mc, vc⟩] from hm11)
                dsimp only
                obtain ⟨n11, hn11⟩ : ∃ q, q = addA A [ax ⟨#[111, 110, 101, 39]⟩ tS] := ⟨_, rfl⟩
                rw [← hn11]
                clear ht11 hm11 hs11 hn11 HAD11 FS11 HS11
                go_wp2_with fail
                refine (SE_any _).mono ?_
                rintro y s12 ⟨hS12, rfl, b12, f12⟩
                have HS12 := Lib.hid (HM11.out.below b12)
                have FS12 := Lib.hid (ax_firm (s := ⟨#[116, 119, 111, 39]⟩) (by decide) (f12 P11 HM11.out.lt))
                have HAD12 := Lib.hid (show Calls Tryz.prog 20 #[.pointer (some ⟨e', 0, none⟩), .slice (some ⟨s12.heap.size, 0, none⟩) 1 1] (s12.alloc (.cells ((ax ⟨#[116, 119, 111, 39]⟩ tS).vals { zIHd with ty := hS12 }).toArray 46)) (ManyAdd w P11 [⟨ea, L11, mo11, v11⟩, ⟨eb, B6, mo6, v6⟩, ⟨e', M, mc, vc⟩] 2 ⟨e', M, mc, vc⟩ [ax ⟨#[116, 119, 111, 39]⟩ tS] s12) from HS12.out.addOne (i := 2) (by simp) FS12.out (by decide))
                clear b12 f12
                go_wp2_with (first
                  | (refine wpList_buildTo rfl 46 _ rfl (some 140) rfl ((ax ⟨#[116, 119, 111, 39]⟩ tS).vals { zIHd with ty := hS12 }).toArray (by kernel_rfl) ?_)
                  | (refine Go.Great.wpList_buildSliceTo rfl 22 46 1 _ rfl s12.heap.size rfl (some 141) rfl Tryz.underlying22 ((ax ⟨#[116, 119, 111, 39]⟩ tS).vals { zIHd with ty := hS12 }).toArray (by kernel_rfl) ?_))
                refine HAD12.out.mono ?_
                rintro y w12 ⟨rfl, L12, mo12, v12, P12, ht12, hm12, hs12⟩
                have HT12 := Lib.hid ht12
                have HM12 := Lib.hid (show Many w w12 P12 [⟨ea, L11, mo11, v11⟩, ⟨eb, B6, mo6, v6⟩, ⟨e', L12, mo12, v12⟩] from hm12)
                dsimp only
                obtain ⟨n12, hn12⟩ : ∃ q, q = addA M [ax ⟨#[116, 119, 111, 39]⟩ tS] := ⟨_, rfl⟩
                rw [← hn12]
                clear ht12 hm12 hs12 hn12 HAD12 FS12 HS12
                go_wp2_with fail
                refine (SE_any _).mono ?_
                rintro y s13 ⟨hS13, rfl, b13, f13⟩
                have HS13 := Lib.hid (HM12.out.below b13)
                have FS13 := Lib.hid (ax_firm (s := ⟨#[116, 119, 111, 39]⟩) (by decide) (f13 P12 HM12.out.lt))
                have HAD13 := Lib.hid (show Calls Tryz.prog 20 #[.pointer (some ⟨eb, 0, none⟩), .slice (some ⟨s13.heap.size, 0, none⟩) 1 1] (s13.alloc (.cells ((ax ⟨#[116, 119, 111, 39]⟩ tS).vals { zIHd with ty := hS13 }).toArray 46)) (ManyAdd w P12 [⟨ea, L11, mo11, v11⟩, ⟨eb, B6, mo6, v6⟩, ⟨e', L12, mo12, v12⟩] 1 ⟨eb, B6, mo6, v6⟩ [ax ⟨#[116, 119, 111, 39]⟩ tS] s13) from HS13.out.addOne (i := 1) (by simp) FS13.out (by decide))
                clear b13 f13
                go_wp2_with (first
                  | (refine wpList_buildTo rfl 46 _ rfl (some 145) rfl ((ax ⟨#[116, 119, 111, 39]⟩ tS).vals { zIHd with ty := hS13 }).toArray (by kernel_rfl) ?_)
                  | (refine Go.Great.wpList_buildSliceTo rfl 22 46 1 _ rfl s13.heap.size rfl (some 146) rfl Tryz.underlying22 ((ax ⟨#[116, 119, 111, 39]⟩ tS).vals { zIHd with ty := hS13 }).toArray (by kernel_rfl) ?_))
                refine HAD13.out.mono ?_
                rintro y w13 ⟨rfl, L13, mo13, v13, P13, ht13, hm13, hs13⟩
                have HT13 := Lib.hid ht13
                have HM13 := Lib.hid (show Many w w13 P13 [⟨ea, L11, mo11, v11⟩, ⟨eb, L13, mo13, v13⟩, ⟨e', L12, mo12, v12⟩] from hm13)
                dsimp only
                obtain ⟨n13, hn13⟩ : ∃ q, q = addA B6 [ax ⟨#[116, 119, 111, 39]⟩ tS] := ⟨_, rfl⟩
                rw [← hn13]
                clear ht13 hm13 hs13 hn13 HAD13 FS13 HS13
                have HN9 : Hid ((lookE A (key ⟨#[116, 119, 111, 39]⟩)).isSome = false) := Lib.hid (by have h0 := HBB9.out; cases hq : (lookE A (key ⟨#[116, 119, 111, 39]⟩)).isSome with | false => rfl | true => exact absurd (h0.2 hq) (by decide))
                have HN8 : Hid ((lookE M (key ⟨#[111, 110, 101, 39]⟩)).isSome = false) := Lib.hid (by have h0 := HBB8.out; cases hq : (lookE M (key ⟨#[111, 110, 101, 39]⟩)).isSome with | false => rfl | true => exact absurd (h0.2 hq) (by decide))
                have HN14 := Lib.hid (HT11.out.none_of HN9.out (by decide))
                have HN15 := Lib.hid (HT12.out.none_of HN8.out (by decide))
                have HRE := Lib.hid (HT11.out.facts2 (fun y hy => by simp at hy; subst hy; exact (by decide : (0 : Nat) ≤ 1000)) HR0.out)
                have HRC := Lib.hid (HT12.out.facts2 (fun y hy => by simp at hy; subst hy; exact (by decide : (0 : Nat) ≤ 1000)) HR2.out)
                have HRD := Lib.hid (HT13.out.facts2 (fun y hy => by simp at hy; subst hy; exact (by decide : (0 : Nat) ≤ 1000)) HR1.out)
                have HIN2 : Hid (infs L12 = infs L13) := Lib.hid (HT12.out.alike HT13.out HIN.out)
                obtain ⟨NM, hNM⟩ : ∃ q, q = nms L12 := ⟨_, rfl⟩
                have HNM := Lib.hid hNM
                have HNB : Hid (NM = nms L13) := Lib.hid (by rw [hNM]; unfold nms; rw [HIN2.out])
                have HNL2 : Hid (NM.length ≤ 4096) := Lib.hid (by have h0 := (HM13.out.env ⟨e', L12, mo12, v12⟩ (List.mem_cons_of_mem _ (List.mem_cons_of_mem _ (List.mem_cons_self ..)))).env.few; rw [hNM, nms_len]; exact h0)
                clear hNM
                go_wp2_with fail
                have HEV14 := Lib.hid (HM13.out.env ⟨ea, L11, mo11, v11⟩ (List.mem_cons_self ..))
                refine (findP_any HEV14.out ⟨#[116, 119, 111, 39]⟩ (by decide) HRE.out).mono ?_
                intro y v14 hfd
                obtain ⟨z14, h14, b14, rfl, q14, hbb14, _⟩ := hfd.two
                have hb14 : b14 = false := by
                  rw [Bool.eq_false_iff]
                  intro hq
                  have h0 := hbb14.1 hq
                  rw [HN14.out] at h0
                  cases h0
                subst hb14
                have HQ14 := Lib.hid (HM13.out.below q14)
                clear hfd q14 hbb14
                dsimp only
                go_upto_region 27 with (refine wpList_store_row rfl 46 (.tmp 22) (.tmp 151) rfl v14.heap.size _ rfl rfl 46 Inf.zeros (World.alloc_heap_new _ _) HKR.out (HKZ.out _ _) (HKO.out _ _) ?_)
                rw [World.setRow_alloc_new]
                obtain ⟨W14, hW⟩ : ∃ W, W = v14.alloc (.cells (z14.vals h14).toArray 46) := ⟨_, rfl⟩
                have HM14 := Lib.hid (HQ14.out.below (show Below v14.heap.size v14 W14 from hW ▸ below_one _ _))
                rw [← hW]
                clear hW HQ14
                go_wp2_with fail
                have HEV15 := Lib.hid (HM14.out.env ⟨e', L12, mo12, v12⟩ (List.mem_cons_of_mem _ (List.mem_cons_of_mem _ (List.mem_cons_self ..))))
                refine (findP_any HEV15.out ⟨#[111, 110, 101, 39]⟩ (by decide) HRC.out).mono ?_
                intro y v15 hfd
                obtain ⟨z15, h15, b15, rfl, q15, hbb15, _⟩ := hfd.two
                have hb15 : b15 = false := by
                  rw [Bool.eq_false_iff]
                  intro hq
                  have h0 := hbb15.1 hq
                  rw [HN15.out] at h0
                  cases h0
                subst hb15
                have HQ15 := Lib.hid (HM14.out.below q15)
                clear hfd q15 hbb15
                dsimp only
                go_upto_region 28 with (refine wpList_store_row rfl 46 (.tmp 24) (.tmp 156) rfl v15.heap.size _ rfl rfl 46 Inf.zeros (World.alloc_heap_new _ _) HKR.out (HKZ.out _ _) (HKO.out _ _) ?_)
                rw [World.setRow_alloc_new]
                obtain ⟨W15, hW⟩ : ∃ W, W = v15.alloc (.cells (z15.vals h15).toArray 46) := ⟨_, rfl⟩
                have HM15 := Lib.hid (HQ15.out.below (show Below v15.heap.size v15 W15 from hW ▸ below_one _ _))
                rw [← hW]
                clear hW HQ15
                by_cases h11 : n11 = 0
                · subst h11
                  by_cases h12 : n12 = 0
                  · subst h12
                    go_wp2_with fail
                    refine (list_str (HM15.out.env ⟨e', L12, mo12, v12⟩ (List.mem_cons_of_mem _ (List.mem_cons_of_mem _ (List.mem_cons_self ..)))).env HNM.out).mono ?_
                    rintro y w16 ⟨a16, c16, rfl, s16, b16⟩
                    have HM16 := Lib.hid (HM15.out.below b16)
                    have HS16 := Lib.hid s16
                    clear b16 s16 HM15
                    go_wp2_with fail
                    refine (list_str (HM16.out.env ⟨eb, L13, mo13, v13⟩ (List.mem_cons_of_mem _ (List.mem_cons_self ..))).env HNB.out).mono ?_
                    rintro y w17 ⟨a17, c17, rfl, s17, b17⟩
                    have HL0 : Hid (WithRel w P13 [⟨ea, L11, mo11, v11⟩, ⟨eb, L13, mo13, v13⟩, ⟨e', L12, mo12, v12⟩] a16 a17 NM (.int .i64 (0 : Nat)) w17) := Lib.hid ⟨0, rfl, by omega, HM16.out.below b17, HS16.out.below b17, s17⟩
                    clear b17 s17 HM16 HS16
                    go_upto_region 35 with fail
                    go_loopw [28] (fun vi wr => WithRel w P13 [⟨ea, L11, mo11, v11⟩, ⟨eb, L13, mo13, v13⟩, ⟨e', L12, mo12, v12⟩] a16 a17 NM vi wr) (fun i _ => NM.length - (intOf i).toNat)
                    case atStart => exact HL0.out
                    case round =>
                      obtain ⟨j, rfl, hj, hm, hsa, hsb⟩ := hrel
                      have HM := Lib.hid hm
                      have HSA := Lib.hid hsa
                      have HSB := Lib.hid hsb
                      clear hm HL0
                      by_cases hlj : j < NM.length
                      · obtain ⟨x, p, q, hxn, hlp, hlq, hpx, hqx, hpm⟩ := two_look HNM.out HIN2.out (HM.out.env ⟨e', L12, mo12, v12⟩ (List.mem_cons_of_mem _ (List.mem_cons_of_mem _ (List.mem_cons_self ..)))).env.nodup (HM.out.env ⟨eb, L13, mo13, v13⟩ (List.mem_cons_of_mem _ (List.mem_cons_self ..))).env.nodup hlj
                        have HNL : Hid (x.name.size ≤ maxLen) := Lib.hid (by have h0 := ((HM.out.env ⟨e', L12, mo12, v12⟩ (List.mem_cons_of_mem _ (List.mem_cons_of_mem _ (List.mem_cons_self ..)))).ent p hpm).2.fit.name; rw [hpx] at h0; unfold maxLen; omega)
                        have HX20 : Hid (x.rules.length ≤ 1000) := Lib.hid (hpx ▸ HRC.out p hpm)
                        obtain ⟨ga, hga, hgas, hca⟩ := hsa j hlj
                        obtain ⟨gb, hgb, hgbs, hcb⟩ := hsb j hlj
                        rw [hxn] at hca hcb
                        subst hga
                        subst hgb
                        have HCB := Lib.hid (show gb < wr.heap.size ∧ wr.cell? ⟨gb, j, none⟩ = some (.string x.name) from ⟨hgbs, hcb⟩)
                        have HCA := Lib.hid (show ga < wr.heap.size ∧ wr.cell? ⟨ga, j, none⟩ = some (.string x.name) from ⟨hgas, hca⟩)
                        have HLP := Lib.hid hlp
                        have HLQ := Lib.hid hlq
                        have HPX := Lib.hid hpx
                        have HQX := Lib.hid hqx
                        have HLJ := Lib.hid hlj
                        have hwj : wrap64 ((j : Int) + 1) = (j : Int) + 1 := IntWalk.wrap64_in _ (by have := HNL2.out; omega)
                        have hwj2 : IntKind.i64.wrap ((j : Int) + 1) = (j : Int) + 1 := IntWalk.i64_in _ (by have := HNL2.out; omega)
                        clear hsa hsb hxn hlp hlq hpx hqx hpm hgas hgbs hcb
                        have HEV1 := Lib.hid (HM.out.env ⟨e', L12, mo12, v12⟩ (List.mem_cons_of_mem _ (List.mem_cons_of_mem _ (List.mem_cons_self ..))))
                        go_wp2_with fail
                        refine (findP_any HEV1.out _ HNL.out HRC.out).mono ?_
                        intro y w18 hfd
                        obtain ⟨hA, rfl, fA, b18⟩ := hfd.yes HLP.out
                        rw [HPX.out] at fA ⊢
                        have HM18 := Lib.hid (HM.out.below b18)
                        have HFA := Lib.hid fA
                        have HCA18 := Lib.hid (cell_stay HCA.out b18)
                        have HCB18 := Lib.hid (cell_stay HCB.out b18)
                        have HSA18 := Lib.hid (HSA.out.below b18)
                        have HSB18 := Lib.hid (HSB.out.below b18)
                        clear hfd fA b18 hca HM HEV1 HCA HCB HSA HSB
                        dsimp only
                        go_upto_region 38 with (refine wpList_store_row rfl 46 (.tmp 29) (.tmp 192) rfl w18.heap.size _ rfl rfl 46 Inf.zeros (World.alloc_heap_new _ _) HKR.out (HKZ.out _ _) (HKO.out _ _) ?_)
                        rw [World.setRow_alloc_new]
                        obtain ⟨W19, hW19⟩ : ∃ W, W = w18.alloc (.cells (x.vals hA).toArray 46) := ⟨_, rfl⟩
                        have hb19 : Below w18.heap.size w18 W19 := hW19 ▸ below_one _ _
                        have HM19 := Lib.hid (HM18.out.below hb19)
                        have HFA19 := Lib.hid (HFA.out.step (RanS.of_below hb19))
                        have HCA19 := Lib.hid (cell_stay HCA18.out hb19)
                        have HCB19 := Lib.hid (cell_stay HCB18.out hb19)
                        have HSA19 := Lib.hid (HSA18.out.below hb19)
                        have HSB19 := Lib.hid (HSB18.out.below hb19)
                        have HY19 := Lib.hid (show IBox W19 w18.heap.size x hA from hW19 ▸ World.alloc_heap_new _ _)
                        obtain ⟨bY, hbY⟩ : ∃ b, b = w18.heap.size := ⟨_, rfl⟩
                        rw [← hbY] at HY19
                        rw [← hW19, ← hbY]
                        clear hW19 hbY hb19 HM18 HFA HCA18 HCB18 HSA18 HSB18
                        have cb19 := HCB19.out.2
                        have HEV2 := Lib.hid (HM19.out.env ⟨eb, L13, mo13, v13⟩ (List.mem_cons_of_mem _ (List.mem_cons_self ..)))
                        go_wp2_with fail
                        refine (findP_any HEV2.out _ HNL.out HRD.out).mono ?_
                        intro y w20 hfd
                        obtain ⟨hB, rfl, fB, b20⟩ := hfd.yes HLQ.out
                        rw [HQX.out] at fB ⊢
                        have HM20 := Lib.hid (HM19.out.below b20)
                        have HFA20 := Lib.hid (HFA19.out.step (RanS.of_below b20))
                        have HFB := Lib.hid fB
                        have HCA20 := Lib.hid (cell_stay HCA19.out b20)
                        have HCB20 := Lib.hid (cell_stay HCB19.out b20)
                        have HSA20 := Lib.hid (HSA19.out.below b20)
                        have HSB20 := Lib.hid (HSB19.out.below b20)
                        have HY20 := Lib.hid (HY19.out.keep b20)
                        clear hfd fB b20 cb19 HM19 HEV2 HFA19 HCA19 HCB19 HSA19 HSB19 HY19
                        dsimp only
                        go_upto_region 39 with (refine wpList_store_row rfl 46 (.tmp 31) (.tmp 201) rfl w20.heap.size _ rfl rfl 46 Inf.zeros (World.alloc_heap_new _ _) HKR.out (HKZ.out _ _) (HKO.out _ _) ?_)
                        rw [World.setRow_alloc_new]
                        obtain ⟨W21, hW21⟩ : ∃ W, W = w20.alloc (.cells (x.vals hB).toArray 46) := ⟨_, rfl⟩
                        have hb21 : Below w20.heap.size w20 W21 := hW21 ▸ below_one _ _
                        have HM21 := Lib.hid (HM20.out.below hb21)
                        have HFA21 := Lib.hid (HFA20.out.step (RanS.of_below hb21)).here
                        have HFB21 := Lib.hid (HFB.out.step (RanS.of_below hb21)).here
                        have HCA21 := Lib.hid (cell_stay HCA20.out hb21)
                        have HCB21 := Lib.hid (cell_stay HCB20.out hb21)
                        have HSA21 := Lib.hid (HSA20.out.below hb21)
                        have HSB21 := Lib.hid (HSB20.out.below hb21)
                        have HY21 := Lib.hid (HY20.out.keep hb21)
                        have HZ21 := Lib.hid (show IBox W21 w20.heap.size x hB from hW21 ▸ World.alloc_heap_new _ _)
                        obtain ⟨bZ, hbZ⟩ : ∃ b, b = w20.heap.size := ⟨_, rfl⟩
                        rw [← hbZ] at HZ21
                        rw [← hW21, ← hbZ]
                        clear hW21 hbZ hb21 HM20 HFA20 HFB HCA20 HCB20 HSA20 HSB20 HY20
                        have HB21 : Hid (Below W21.heap.size W21 W21.drew) := Lib.hid (Below.refl _ _).drew
                        have HSM := Lib.hid (fun (W : World) (hW : Below W21.heap.size W21 W) => same7_any x hA hB W (Inf.carry HFA21.out hW) (Inf.carry HFB21.out hW) HX20.out)
                        go_wp2_with fail
                        refine wp_region_held_drew (S := fun w' => w'.rangeAt bY 0 (x.vals hA) ∧ w'.rangeAt bZ 0 (x.vals hB) ∧ w'.cell? ⟨ga, j, none⟩ = some (.string x.name) ∧ w'.cell? ⟨gb, j, none⟩ = some (.string x.name)) (by kernel_rfl) (⟨(HY21.out.keep HB21.out).range, (HZ21.out.keep HB21.out).range, (cell_stay HCA21.out HB21.out).2, (cell_stay HCB21.out HB21.out).2⟩) (fun hHeld => ?_)
                        refine wpAnyH_take (i := 0) (v := ?vrc720) rfl (by kernel_rfl) (by kernel_rfl) (by kernel_rfl) (fun _ _ _ h => h) (Or.inl ⟨by rfl, ?hyrc720⟩) (by assumption) ?restrc720
                        case hyrc720 => (intro w hSw; (try dsimp only at hSw); go_simp <;> with_reducible rfl)
                        try simp only [List.getElem_toArray, List.getElem_cons_zero, Act.put, List.setIfInBounds_toArray, List.set_cons_zero, List.set_cons_succ]
                        refine wpAnyH_take (i := 1) (v := ?vrc721) rfl (by kernel_rfl) (by kernel_rfl) (by kernel_rfl) (fun _ _ _ h => h) (Or.inl ⟨by rfl, ?hyrc721⟩) (by assumption) ?restrc721
                        case hyrc721 => (intro w hSw; (try dsimp only at hSw); go_simp <;> with_reducible rfl)
                        try simp only [List.getElem_toArray, List.getElem_cons_succ, List.getElem_cons_zero, Act.put, List.setIfInBounds_toArray, List.set_cons_zero, List.set_cons_succ]
                        refine wpAnyH_take (i := 2) (v := ?vrc722) rfl (by kernel_rfl) (by kernel_rfl) (by kernel_rfl) (fun _ _ _ h => h) (Or.inl ⟨by rfl, ?hyrc722⟩) (by assumption) ?restrc722
                        case hyrc722 => (intro w hSw; (try dsimp only at hSw); go_simp <;> with_reducible rfl)
                        try simp only [List.getElem_toArray, List.getElem_cons_succ, List.getElem_cons_zero, Act.put, List.setIfInBounds_toArray, List.set_cons_zero, List.set_cons_succ]
                        refine wpAnyH_take (i := 3) (v := ?vrc723) rfl (by kernel_rfl) (by kernel_rfl) (by kernel_rfl) (fun _ _ _ h => h) (Or.inl ⟨by rfl, ?hyrc723⟩) (by assumption) ?restrc723
                        case hyrc723 => (intro w hSw; (try dsimp only at hSw); go_simp <;> with_reducible rfl)
                        try simp only [List.getElem_toArray, List.getElem_cons_succ, List.getElem_cons_zero, Act.put, List.setIfInBounds_toArray, List.set_cons_zero, List.set_cons_succ]
                        refine wpAnyH_take (i := 4) (v := ?vrc724) rfl (by kernel_rfl) (by kernel_rfl) (by kernel_rfl) (fun _ _ _ h => h) (Or.inl ⟨by rfl, ?hyrc724⟩) (by assumption) ?restrc724
                        case hyrc724 => (intro w hSw; (try dsimp only at hSw); go_simp <;> with_reducible rfl)
                        try simp only [List.getElem_toArray, List.getElem_cons_succ, List.getElem_cons_zero, Act.put, List.setIfInBounds_toArray, List.set_cons_zero, List.set_cons_succ]
                        refine wpAnyH_take (i := 5) (v := ?vrc725) rfl (by kernel_rfl) (by kernel_rfl) (by kernel_rfl) (fun _ _ _ h => h) (Or.inl ⟨by rfl, ?hyrc725⟩) (by assumption) ?restrc725
                        case hyrc725 => (intro w hSw; (try dsimp only at hSw); go_simp <;> with_reducible rfl)
                        try simp only [List.getElem_toArray, List.getElem_cons_succ, List.getElem_cons_zero, Act.put, List.setIfInBounds_toArray, List.set_cons_zero, List.set_cons_succ]
                        refine wpAnyH_take (i := 6) (v := ?vrc726) rfl (by kernel_rfl) (by kernel_rfl) (by kernel_rfl) (fun _ _ _ h => h) (Or.inl ⟨by rfl, ?hyrc726⟩) (by assumption) ?restrc726
                        case hyrc726 => (intro w hSw; (try dsimp only at hSw); go_simp <;> with_reducible rfl)
                        try simp only [List.getElem_toArray, List.getElem_cons_succ, List.getElem_cons_zero, Act.put, List.setIfInBounds_toArray, List.set_cons_zero, List.set_cons_succ]
                        refine wpAnyH_take (i := 7) (v := ?vrc727) rfl (by kernel_rfl) (by kernel_rfl) (by kernel_rfl) (fun _ _ _ h => h) (Or.inl ⟨by rfl, ?hyrc727⟩) (by assumption) ?restrc727
                        case hyrc727 => (intro w hSw; (try dsimp only at hSw); go_simp <;> with_reducible rfl)
                        try simp only [List.getElem_toArray, List.getElem_cons_succ, List.getElem_cons_zero, Act.put, List.setIfInBounds_toArray, List.set_cons_zero, List.set_cons_succ]
                        refine wpAnyH_take (i := 8) (v := ?vrc728) rfl (by kernel_rfl) (by kernel_rfl) (by kernel_rfl) (fun _ _ _ h => h) (Or.inl ⟨by rfl, ?hyrc728⟩) (by assumption) ?restrc728
                        case hyrc728 => (intro w hSw; (try dsimp only at hSw); go_simp <;> with_reducible rfl)
                        try simp only [List.getElem_toArray, List.getElem_cons_succ, List.getElem_cons_zero, Act.put, List.setIfInBounds_toArray, List.set_cons_zero, List.set_cons_succ]
                        refine wpAnyH_take (i := 9) (v := ?vrc729) rfl (by kernel_rfl) (by kernel_rfl) (by kernel_rfl) (fun _ _ _ h => h) (Or.inl ⟨by rfl, ?hyrc729⟩) (by assumption) ?restrc729
                        case hyrc729 => (intro w hSw; (try dsimp only at hSw); go_simp <;> with_reducible rfl)
                        try simp only [List.getElem_toArray, List.getElem_cons_succ, List.getElem_cons_zero, Act.put, List.setIfInBounds_toArray, List.set_cons_zero, List.set_cons_succ]
                        refine wpAnyH_take (i := 10) (v := .agg (x.vals hA).toArray) rfl (by kernel_rfl) (by kernel_rfl) (by kernel_rfl) (fun _ _ _ h => h) (yieldsIf_load_mid rfl 46 (.tmp 29) rfl bY 0 rfl (x.vals hA) _ (fun _ h => h.1) Tryz.underlying46 rfl HKL.out) (by assumption) ?_
                        try simp only [List.getElem_toArray, List.getElem_cons_succ, List.getElem_cons_zero, Act.put, List.setIfInBounds_toArray, List.set_cons_zero, List.set_cons_succ]
                        refine wpAnyH_take (i := 11) (v := .agg (x.vals hB).toArray) rfl (by kernel_rfl) (by kernel_rfl) (by kernel_rfl) (fun _ _ _ h => h) (yieldsIf_load_mid rfl 46 (.tmp 31) rfl bZ 0 rfl (x.vals hB) _ (fun _ h => h.2.1) Tryz.underlying46 rfl HKL.out) (by assumption) ?_
                        try simp only [List.getElem_toArray, List.getElem_cons_succ, List.getElem_cons_zero, Act.put, List.setIfInBounds_toArray, List.set_cons_zero, List.set_cons_succ]
                        refine wpAnyH_ready (rs := [12]) (by kernel_rfl) (by simp) ?_
                        refine AllReadyH.cons rfl (fun K hK => ?_) AllReadyH.nil
                        go_simp
                        refine (HSM.out _ HB21.out).mono ?_
                        rintro y v3 ⟨rfl, c3⟩
                        have HB22 := Lib.hid (Trm.go HB21.out c3)
                        clear c3
                        refine hK.out _ _ (⟨(HY21.out.keep HB22.out).range, (HZ21.out.keep HB22.out).range, (cell_stay HCA21.out HB22.out).2, (cell_stay HCB21.out HB22.out).2⟩) (fun hHeld => ?_)
                        clear hK K
                        try simp only [List.getElem_toArray, List.getElem_cons_succ, List.getElem_cons_zero, Act.put, List.setIfInBounds_toArray, List.set_cons_zero, List.set_cons_succ]
                        refine wpAnyH_take (i := 13) (v := ?vrc7213) rfl (by kernel_rfl) (by kernel_rfl) (by kernel_rfl) (fun _ _ _ h => h) (Or.inl ⟨by rfl, ?hyrc7213⟩) (by assumption) ?restrc7213
                        case hyrc7213 => (intro w hSw; (try dsimp only at hSw); go_simp <;> with_reducible rfl)
                        try simp only [List.getElem_toArray, List.getElem_cons_succ, List.getElem_cons_zero, Act.put, List.setIfInBounds_toArray, List.set_cons_zero, List.set_cons_succ]
                        refine wpAnyH_take (i := 14) (v := ?vrc7214) rfl (by kernel_rfl) (by kernel_rfl) (by kernel_rfl) (fun _ _ _ h => h) (Or.inl ⟨by rfl, ?hyrc7214⟩) (by assumption) ?restrc7214
                        case hyrc7214 => (intro w hSw; (try dsimp only at hSw); go_simp <;> with_reducible rfl)
                        try simp only [List.getElem_toArray, List.getElem_cons_succ, List.getElem_cons_zero, Act.put, List.setIfInBounds_toArray, List.set_cons_zero, List.set_cons_succ]
                        refine wpAnyH_done (by kernel_rfl) ?_ _
                        have HM22 := Lib.hid (HM21.out.below HB22.out)
                        have HSA22 := Lib.hid (HSA21.out.below HB22.out)
                        have HSB22 := Lib.hid (HSB21.out.below HB22.out)
                        go_wp2_with fail
                        go_roundw
                        case rel => exact ⟨j + 1, by first | rfl | (rw [hwj]; rfl), HLJ.out, HM22.out, HSA22.out, HSB22.out⟩
                        case measure => first | exact less_step rfl HLJ.out | exact less_step hwj HLJ.out
                      · have HB14 := Lib.hid HM.out.bel
                        clear HM
                        go_wp2_with fail
                        refine (works7_any _).mono ?_
                        rintro y wz ⟨rfl, bz⟩
                        have HBZ := Lib.hid (Trm.go HB14.out bz)
                        clear bz
                        go_wp2_with fail
                        go_ret
                        exact ⟨rfl, HBZ.out⟩
                  · have hd12 : (n12 == 0) = false := by simpa using h12
                    have hd12b : decide (n12 = 0) = false := by simpa using h12
                    clear h12
                    go_wp2_with fail
                    refine (list_str (HM15.out.env ⟨e', L12, mo12, v12⟩ (List.mem_cons_of_mem _ (List.mem_cons_of_mem _ (List.mem_cons_self ..)))).env HNM.out).mono ?_
                    rintro y w16 ⟨a16, c16, rfl, s16, b16⟩
                    have HM16 := Lib.hid (HM15.out.below b16)
                    have HS16 := Lib.hid s16
                    clear b16 s16 HM15
                    go_wp2_with fail
                    refine (list_str (HM16.out.env ⟨eb, L13, mo13, v13⟩ (List.mem_cons_of_mem _ (List.mem_cons_self ..))).env HNB.out).mono ?_
                    rintro y w17 ⟨a17, c17, rfl, s17, b17⟩
                    have HL0 : Hid (WithRel w P13 [⟨ea, L11, mo11, v11⟩, ⟨eb, L13, mo13, v13⟩, ⟨e', L12, mo12, v12⟩] a16 a17 NM (.int .i64 (0 : Nat)) w17) := Lib.hid ⟨0, rfl, by omega, HM16.out.below b17, HS16.out.below b17, s17⟩
                    clear b17 s17 HM16 HS16
                    go_upto_region 35 with fail
                    go_loopw [28] (fun vi wr => WithRel w P13 [⟨ea, L11, mo11, v11⟩, ⟨eb, L13, mo13, v13⟩, ⟨e', L12, mo12, v12⟩] a16 a17 NM vi wr) (fun i _ => NM.length - (intOf i).toNat)
                    case atStart => exact HL0.out
                    case round =>
                      obtain ⟨j, rfl, hj, hm, hsa, hsb⟩ := hrel
                      have HM := Lib.hid hm
                      have HSA := Lib.hid hsa
                      have HSB := Lib.hid hsb
                      clear hm HL0
                      by_cases hlj : j < NM.length
                      · obtain ⟨x, p, q, hxn, hlp, hlq, hpx, hqx, hpm⟩ := two_look HNM.out HIN2.out (HM.out.env ⟨e', L12, mo12, v12⟩ (List.mem_cons_of_mem _ (List.mem_cons_of_mem _ (List.mem_cons_self ..)))).env.nodup (HM.out.env ⟨eb, L13, mo13, v13⟩ (List.mem_cons_of_mem _ (List.mem_cons_self ..))).env.nodup hlj
                        have HNL : Hid (x.name.size ≤ maxLen) := Lib.hid (by have h0 := ((HM.out.env ⟨e', L12, mo12, v12⟩ (List.mem_cons_of_mem _ (List.mem_cons_of_mem _ (List.mem_cons_self ..)))).ent p hpm).2.fit.name; rw [hpx] at h0; unfold maxLen; omega)
                        have HX20 : Hid (x.rules.length ≤ 1000) := Lib.hid (hpx ▸ HRC.out p hpm)
                        obtain ⟨ga, hga, hgas, hca⟩ := hsa j hlj
                        obtain ⟨gb, hgb, hgbs, hcb⟩ := hsb j hlj
                        rw [hxn] at hca hcb
                        subst hga
                        subst hgb
                        have HCB := Lib.hid (show gb < wr.heap.size ∧ wr.cell? ⟨gb, j, none⟩ = some (.string x.name) from ⟨hgbs, hcb⟩)
                        have HCA := Lib.hid (show ga < wr.heap.size ∧ wr.cell? ⟨ga, j, none⟩ = some (.string x.name) from ⟨hgas, hca⟩)
                        have HLP := Lib.hid hlp
                        have HLQ := Lib.hid hlq
                        have HPX := Lib.hid hpx
                        have HQX := Lib.hid hqx
                        have HLJ := Lib.hid hlj
                        have hwj : wrap64 ((j : Int) + 1) = (j : Int) + 1 := IntWalk.wrap64_in _ (by have := HNL2.out; omega)
                        have hwj2 : IntKind.i64.wrap ((j : Int) + 1) = (j : Int) + 1 := IntWalk.i64_in _ (by have := HNL2.out; omega)
                        clear hsa hsb hxn hlp hlq hpx hqx hpm hgas hgbs hcb
                        have HEV1 := Lib.hid (HM.out.env ⟨e', L12, mo12, v12⟩ (List.mem_cons_of_mem _ (List.mem_cons_of_mem _ (List.mem_cons_self ..))))
                        go_wp2_with fail
                        refine (findP_any HEV1.out _ HNL.out HRC.out).mono ?_
                        intro y w18 hfd
                        obtain ⟨hA, rfl, fA, b18⟩ := hfd.yes HLP.out
                        rw [HPX.out] at fA ⊢
                        have HM18 := Lib.hid (HM.out.below b18)
                        have HFA := Lib.hid fA
                        have HCA18 := Lib.hid (cell_stay HCA.out b18)
                        have HCB18 := Lib.hid (cell_stay HCB.out b18)
                        have HSA18 := Lib.hid (HSA.out.below b18)
                        have HSB18 := Lib.hid (HSB.out.below b18)
                        clear hfd fA b18 hca HM HEV1 HCA HCB HSA HSB
                        dsimp only
                        go_upto_region 38 with (refine wpList_store_row rfl 46 (.tmp 29) (.tmp 192) rfl w18.heap.size _ rfl rfl 46 Inf.zeros (World.alloc_heap_new _ _) HKR.out (HKZ.out _ _) (HKO.out _ _) ?_)
                        rw [World.setRow_alloc_new]
                        obtain ⟨W19, hW19⟩ : ∃ W, W = w18.alloc (.cells (x.vals hA).toArray 46) := ⟨_, rfl⟩
                        have hb19 : Below w18.heap.size w18 W19 := hW19 ▸ below_one _ _
                        have HM19 := Lib.hid (HM18.out.below hb19)
                        have HFA19 := Lib.hid (HFA.out.step (RanS.of_below hb19))
                        have HCA19 := Lib.hid (cell_stay HCA18.out hb19)
                        have HCB19 := Lib.hid (cell_stay HCB18.out hb19)
                        have HSA19 := Lib.hid (HSA18.out.below hb19)
                        have HSB19 := Lib.hid (HSB18.out.below hb19)
                        have HY19 := Lib.hid (show IBox W19 w18.heap.size x hA from hW19 ▸ World.alloc_heap_new _ _)
                        obtain ⟨bY, hbY⟩ : ∃ b, b = w18.heap.size := ⟨_, rfl⟩
                        rw [← hbY] at HY19
                        rw [← hW19, ← hbY]
                        clear hW19 hbY hb19 HM18 HFA HCA18 HCB18 HSA18 HSB18
                        have cb19 := HCB19.out.2
                        have HEV2 := Lib.hid (HM19.out.env ⟨eb, L13, mo13, v13⟩ (List.mem_cons_of_mem _ (List.mem_cons_self ..)))
                        go_wp2_with fail
                        refine (findP_any HEV2.out _ HNL.out HRD.out).mono ?_
                        intro y w20 hfd
                        obtain ⟨hB, rfl, fB, b20⟩ := hfd.yes HLQ.out
                        rw [HQX.out] at fB ⊢
                        have HM20 := Lib.hid (HM19.out.below b20)
                        have HFA20 := Lib.hid (HFA19.out.step (RanS.of_below b20))
                        have HFB := Lib.hid fB
                        have HCA20 := Lib.hid (cell_stay HCA19.out b20)
                        have HCB20 := Lib.hid (cell_stay HCB19.out b20)
                        have HSA20 := Lib.hid (HSA19.out.below b20)
                        have HSB20 := Lib.hid (HSB19.out.below b20)
                        have HY20 := Lib.hid (HY19.out.keep b20)
                        clear hfd fB b20 cb19 HM19 HEV2 HFA19 HCA19 HCB19 HSA19 HSB19 HY19
                        dsimp only
                        go_upto_region 39 with (refine wpList_store_row rfl 46 (.tmp 31) (.tmp 201) rfl w20.heap.size _ rfl rfl 46 Inf.zeros (World.alloc_heap_new _ _) HKR.out (HKZ.out _ _) (HKO.out _ _) ?_)
                        rw [World.setRow_alloc_new]
                        obtain ⟨W21, hW21⟩ : ∃ W, W = w20.alloc (.cells (x.vals hB).toArray 46) := ⟨_, rfl⟩
                        have hb21 : Below w20.heap.size w20 W21 := hW21 ▸ below_one _ _
                        have HM21 := Lib.hid (HM20.out.below hb21)
                        have HFA21 := Lib.hid (HFA20.out.step (RanS.of_below hb21)).here
                        have HFB21 := Lib.hid (HFB.out.step (RanS.of_below hb21)).here
                        have HCA21 := Lib.hid (cell_stay HCA20.out hb21)
                        have HCB21 := Lib.hid (cell_stay HCB20.out hb21)
                        have HSA21 := Lib.hid (HSA20.out.below hb21)
                        have HSB21 := Lib.hid (HSB20.out.below hb21)
                        have HY21 := Lib.hid (HY20.out.keep hb21)
                        have HZ21 := Lib.hid (show IBox W21 w20.heap.size x hB from hW21 ▸ World.alloc_heap_new _ _)
                        obtain ⟨bZ, hbZ⟩ : ∃ b, b = w20.heap.size := ⟨_, rfl⟩
                        rw [← hbZ] at HZ21
                        rw [← hW21, ← hbZ]
                        clear hW21 hbZ hb21 HM20 HFA20 HFB HCA20 HCB20 HSA20 HSB20 HY20
                        have HB21 : Hid (Below W21.heap.size W21 W21.drew) := Lib.hid (Below.refl _ _).drew
                        have HSM := Lib.hid (fun (W : World) (hW : Below W21.heap.size W21 W) => same7_any x hA hB W (Inf.carry HFA21.out hW) (Inf.carry HFB21.out hW) HX20.out)
                        go_wp2_with fail
                        refine wp_region_held_drew (S := fun w' => w'.rangeAt bY 0 (x.vals hA) ∧ w'.rangeAt bZ 0 (x.vals hB) ∧ w'.cell? ⟨ga, j, none⟩ = some (.string x.name) ∧ w'.cell? ⟨gb, j, none⟩ = some (.string x.name)) (by kernel_rfl) (⟨(HY21.out.keep HB21.out).range, (HZ21.out.keep HB21.out).range, (cell_stay HCA21.out HB21.out).2, (cell_stay HCB21.out HB21.out).2⟩) (fun hHeld => ?_)
                        refine wpAnyH_take (i := 0) (v := ?vrc770) rfl (by kernel_rfl) (by kernel_rfl) (by kernel_rfl) (fun _ _ _ h => h) (Or.inl ⟨by rfl, ?hyrc770⟩) (by assumption) ?restrc770
                        case hyrc770 => (intro w hSw; (try dsimp only at hSw); go_simp <;> with_reducible rfl)
                        try simp only [List.getElem_toArray, List.getElem_cons_zero, Act.put, List.setIfInBounds_toArray, List.set_cons_zero, List.set_cons_succ]
                        refine wpAnyH_take (i := 1) (v := ?vrc771) rfl (by kernel_rfl) (by kernel_rfl) (by kernel_rfl) (fun _ _ _ h => h) (Or.inl ⟨by rfl, ?hyrc771⟩) (by assumption) ?restrc771
                        case hyrc771 => (intro w hSw; (try dsimp only at hSw); go_simp <;> with_reducible rfl)
                        try simp only [List.getElem_toArray, List.getElem_cons_succ, List.getElem_cons_zero, Act.put, List.setIfInBounds_toArray, List.set_cons_zero, List.set_cons_succ]
                        refine wpAnyH_take (i := 2) (v := ?vrc772) rfl (by kernel_rfl) (by kernel_rfl) (by kernel_rfl) (fun _ _ _ h => h) (Or.inl ⟨by rfl, ?hyrc772⟩) (by assumption) ?restrc772
                        case hyrc772 => (intro w hSw; (try dsimp only at hSw); go_simp <;> with_reducible rfl)
                        try simp only [List.getElem_toArray, List.getElem_cons_succ, List.getElem_cons_zero, Act.put, List.setIfInBounds_toArray, List.set_cons_zero, List.set_cons_succ]
                        refine wpAnyH_take (i := 3) (v := ?vrc773) rfl (by kernel_rfl) (by kernel_rfl) (by kernel_rfl) (fun _ _ _ h => h) (Or.inl ⟨by rfl, ?hyrc773⟩) (by assumption) ?restrc773
                        case hyrc773 => (intro w hSw; (try dsimp only at hSw); go_simp <;> with_reducible rfl)
                        try simp only [List.getElem_toArray, List.getElem_cons_succ, List.getElem_cons_zero, Act.put, List.setIfInBounds_toArray, List.set_cons_zero, List.set_cons_succ]
                        refine wpAnyH_take (i := 4) (v := ?vrc774) rfl (by kernel_rfl) (by kernel_rfl) (by kernel_rfl) (fun _ _ _ h => h) (Or.inl ⟨by rfl, ?hyrc774⟩) (by assumption) ?restrc774
                        case hyrc774 => (intro w hSw; (try dsimp only at hSw); go_simp <;> with_reducible rfl)
                        try simp only [List.getElem_toArray, List.getElem_cons_succ, List.getElem_cons_zero, Act.put, List.setIfInBounds_toArray, List.set_cons_zero, List.set_cons_succ]
                        refine wpAnyH_take (i := 5) (v := ?vrc775) rfl (by kernel_rfl) (by kernel_rfl) (by kernel_rfl) (fun _ _ _ h => h) (Or.inl ⟨by rfl, ?hyrc775⟩) (by assumption) ?restrc775
                        case hyrc775 => (intro w hSw; (try dsimp only at hSw); go_simp <;> with_reducible rfl)
                        try simp only [List.getElem_toArray, List.getElem_cons_succ, List.getElem_cons_zero, Act.put, List.setIfInBounds_toArray, List.set_cons_zero, List.set_cons_succ]
                        refine wpAnyH_take (i := 6) (v := ?vrc776) rfl (by kernel_rfl) (by kernel_rfl) (by kernel_rfl) (fun _ _ _ h => h) (Or.inl ⟨by rfl, ?hyrc776⟩) (by assumption) ?restrc776
                        case hyrc776 => (intro w hSw; (try dsimp only at hSw); go_simp <;> with_reducible rfl)
                        try simp only [List.getElem_toArray, List.getElem_cons_succ, List.getElem_cons_zero, Act.put, List.setIfInBounds_toArray, List.set_cons_zero, List.set_cons_succ]
                        refine wpAnyH_take (i := 7) (v := ?vrc777) rfl (by kernel_rfl) (by kernel_rfl) (by kernel_rfl) (fun _ _ _ h => h) (Or.inl ⟨by rfl, ?hyrc777⟩) (by assumption) ?restrc777
                        case hyrc777 => (intro w hSw; (try dsimp only at hSw); go_simp <;> with_reducible rfl)
                        try simp only [List.getElem_toArray, List.getElem_cons_succ, List.getElem_cons_zero, Act.put, List.setIfInBounds_toArray, List.set_cons_zero, List.set_cons_succ]
                        refine wpAnyH_take (i := 8) (v := ?vrc778) rfl (by kernel_rfl) (by kernel_rfl) (by kernel_rfl) (fun _ _ _ h => h) (Or.inl ⟨by rfl, ?hyrc778⟩) (by assumption) ?restrc778
                        case hyrc778 => (intro w hSw; (try dsimp only at hSw); go_simp <;> with_reducible rfl)
                        try simp only [List.getElem_toArray, List.getElem_cons_succ, List.getElem_cons_zero, Act.put, List.setIfInBounds_toArray, List.set_cons_zero, List.set_cons_succ]
                        refine wpAnyH_take (i := 9) (v := ?vrc779) rfl (by kernel_rfl) (by kernel_rfl) (by kernel_rfl) (fun _ _ _ h => h) (Or.inl ⟨by rfl, ?hyrc779⟩) (by assumption) ?restrc779
                        case hyrc779 => (intro w hSw; (try dsimp only at hSw); go_simp <;> with_reducible rfl)
                        try simp only [List.getElem_toArray, List.getElem_cons_succ, List.getElem_cons_zero, Act.put, List.setIfInBounds_toArray, List.set_cons_zero, List.set_cons_succ]
                        refine wpAnyH_take (i := 10) (v := .agg (x.vals hA).toArray) rfl (by kernel_rfl) (by kernel_rfl) (by kernel_rfl) (fun _ _ _ h => h) (yieldsIf_load_mid rfl 46 (.tmp 29) rfl bY 0 rfl (x.vals hA) _ (fun _ h => h.1) Tryz.underlying46 rfl HKL.out) (by assumption) ?_
                        try simp only [List.getElem_toArray, List.getElem_cons_succ, List.getElem_cons_zero, Act.put, List.setIfInBounds_toArray, List.set_cons_zero, List.set_cons_succ]
                        refine wpAnyH_take (i := 11) (v := .agg (x.vals hB).toArray) rfl (by kernel_rfl) (by kernel_rfl) (by kernel_rfl) (fun _ _ _ h => h) (yieldsIf_load_mid rfl 46 (.tmp 31) rfl bZ 0 rfl (x.vals hB) _ (fun _ h => h.2.1) Tryz.underlying46 rfl HKL.out) (by assumption) ?_
                        try simp only [List.getElem_toArray, List.getElem_cons_succ, List.getElem_cons_zero, Act.put, List.setIfInBounds_toArray, List.set_cons_zero, List.set_cons_succ]
                        refine wpAnyH_ready (rs := [12]) (by kernel_rfl) (by simp) ?_
                        refine AllReadyH.cons rfl (fun K hK => ?_) AllReadyH.nil
                        go_simp
                        refine (HSM.out _ HB21.out).mono ?_
                        rintro y v3 ⟨rfl, c3⟩
                        have HB22 := Lib.hid (Trm.go HB21.out c3)
                        clear c3
                        refine hK.out _ _ (⟨(HY21.out.keep HB22.out).range, (HZ21.out.keep HB22.out).range, (cell_stay HCA21.out HB22.out).2, (cell_stay HCB21.out HB22.out).2⟩) (fun hHeld => ?_)
                        clear hK K
                        try simp only [List.getElem_toArray, List.getElem_cons_succ, List.getElem_cons_zero, Act.put, List.setIfInBounds_toArray, List.set_cons_zero, List.set_cons_succ]
                        refine wpAnyH_take (i := 13) (v := ?vrc7713) rfl (by kernel_rfl) (by kernel_rfl) (by kernel_rfl) (fun _ _ _ h => h) (Or.inl ⟨by rfl, ?hyrc7713⟩) (by assumption) ?restrc7713
                        case hyrc7713 => (intro w hSw; (try dsimp only at hSw); go_simp <;> with_reducible rfl)
                        try simp only [List.getElem_toArray, List.getElem_cons_succ, List.getElem_cons_zero, Act.put, List.setIfInBounds_toArray, List.set_cons_zero, List.set_cons_succ]
                        refine wpAnyH_take (i := 14) (v := ?vrc7714) rfl (by kernel_rfl) (by kernel_rfl) (by kernel_rfl) (fun _ _ _ h => h) (Or.inl ⟨by rfl, ?hyrc7714⟩) (by assumption) ?restrc7714
                        case hyrc7714 => (intro w hSw; (try dsimp only at hSw); go_simp <;> with_reducible rfl)
                        try simp only [List.getElem_toArray, List.getElem_cons_succ, List.getElem_cons_zero, Act.put, List.setIfInBounds_toArray, List.set_cons_zero, List.set_cons_succ]
                        refine wpAnyH_done (by kernel_rfl) ?_ _
                        have HM22 := Lib.hid (HM21.out.below HB22.out)
                        have HSA22 := Lib.hid (HSA21.out.below HB22.out)
                        have HSB22 := Lib.hid (HSB21.out.below HB22.out)
                        go_wp2_with fail
                        go_roundw
                        case rel => exact ⟨j + 1, by first | rfl | (rw [hwj]; rfl), HLJ.out, HM22.out, HSA22.out, HSB22.out⟩
                        case measure => first | exact less_step rfl HLJ.out | exact less_step hwj HLJ.out
                      · have HB14 := Lib.hid HM.out.bel
                        clear HM
                        go_wp2_with fail
                        refine (works7_any _).mono ?_
                        rintro y wz ⟨rfl, bz⟩
                        have HBZ := Lib.hid (Trm.go HB14.out bz)
                        clear bz
                        go_wp2_with fail
                        go_ret
                        exact ⟨rfl, HBZ.out⟩
                · have hd11 : (n11 == 0) = false := by simpa using h11
                  have hd11b : decide (n11 = 0) = false := by simpa using h11
                  clear h11
                  go_wp2_with fail
                  refine (list_str (HM15.out.env ⟨e', L12, mo12, v12⟩ (List.mem_cons_of_mem _ (List.mem_cons_of_mem _ (List.mem_cons_self ..)))).env HNM.out).mono ?_
                  rintro y w16 ⟨a16, c16, rfl, s16, b16⟩
                  have HM16 := Lib.hid (HM15.out.below b16)
                  have HS16 := Lib.hid s16
                  clear b16 s16 HM15
                  go_wp2_with fail
                  refine (list_str (HM16.out.env ⟨eb, L13, mo13, v13⟩ (List.mem_cons_of_mem _ (List.mem_cons_self ..))).env HNB.out).mono ?_
                  rintro y w17 ⟨a17, c17, rfl, s17, b17⟩
                  have HL0 : Hid (WithRel w P13 [⟨ea, L11, mo11, v11⟩, ⟨eb, L13, mo13, v13⟩, ⟨e', L12, mo12, v12⟩] a16 a17 NM (.int .i64 (0 : Nat)) w17) := Lib.hid ⟨0, rfl, by omega, HM16.out.below b17, HS16.out.below b17, s17⟩
                  clear b17 s17 HM16 HS16
                  go_upto_region 35 with fail
                  go_loopw [28] (fun vi wr => WithRel w P13 [⟨ea, L11, mo11, v11⟩, ⟨eb, L13, mo13, v13⟩, ⟨e', L12, mo12, v12⟩] a16 a17 NM vi wr) (fun i _ => NM.length - (intOf i).toNat)
                  case atStart => exact HL0.out
                  case round =>
                    obtain ⟨j, rfl, hj, hm, hsa, hsb⟩ := hrel
                    have HM := Lib.hid hm
                    have HSA := Lib.hid hsa
                    have HSB := Lib.hid hsb
                    clear hm HL0
                    by_cases hlj : j < NM.length
                    · obtain ⟨x, p, q, hxn, hlp, hlq, hpx, hqx, hpm⟩ := two_look HNM.out HIN2.out (HM.out.env ⟨e', L12, mo12, v12⟩ (List.mem_cons_of_mem _ (List.mem_cons_of_mem _ (List.mem_cons_self ..)))).env.nodup (HM.out.env ⟨eb, L13, mo13, v13⟩ (List.mem_cons_of_mem _ (List.mem_cons_self ..))).env.nodup hlj
                      have HNL : Hid (x.name.size ≤ maxLen) := Lib.hid (by have h0 := ((HM.out.env ⟨e', L12, mo12, v12⟩ (List.mem_cons_of_mem _ (List.mem_cons_of_mem _ (List.mem_cons_self ..)))).ent p hpm).2.fit.name; rw [hpx] at h0; unfold maxLen; omega)
                      have HX20 : Hid (x.rules.length ≤ 1000) := Lib.hid (hpx ▸ HRC.out p hpm)
                      obtain ⟨ga, hga, hgas, hca⟩ := hsa j hlj
                      obtain ⟨gb, hgb, hgbs, hcb⟩ := hsb j hlj
                      rw [hxn] at hca hcb
                      subst hga
                      subst hgb
                      have HCB := Lib.hid (show gb < wr.heap.size ∧ wr.cell? ⟨gb, j, none⟩ = some (.string x.name) from ⟨hgbs, hcb⟩)
                      have HCA := Lib.hid (show ga < wr.heap.size ∧ wr.cell? ⟨ga, j, none⟩ = some (.string x.name) from ⟨hgas, hca⟩)
                      have HLP := Lib.hid hlp
                      have HLQ := Lib.hid hlq
                      have HPX := Lib.hid hpx
                      have HQX := Lib.hid hqx
                      have HLJ := Lib.hid hlj
                      have hwj : wrap64 ((j : Int) + 1) = (j : Int) + 1 := IntWalk.wrap64_in _ (by have := HNL2.out; omega)
                      have hwj2 : IntKind.i64.wrap ((j : Int) + 1) = (j : Int) + 1 := IntWalk.i64_in _ (by have := HNL2.out; omega)
                      clear hsa hsb hxn hlp hlq hpx hqx hpm hgas hgbs hcb
                      have HEV1 := Lib.hid (HM.out.env ⟨e', L12, mo12, v12⟩ (List.mem_cons_of_mem _ (List.mem_cons_of_mem _ (List.mem_cons_self ..))))
                      go_wp2_with fail
                      refine (findP_any HEV1.out _ HNL.out HRC.out).mono ?_
                      intro y w18 hfd
                      obtain ⟨hA, rfl, fA, b18⟩ := hfd.yes HLP.out
                      rw [HPX.out] at fA ⊢
                      have HM18 := Lib.hid (HM.out.below b18)
                      have HFA := Lib.hid fA
                      have HCA18 := Lib.hid (cell_stay HCA.out b18)
                      have HCB18 := Lib.hid (cell_stay HCB.out b18)
                      have HSA18 := Lib.hid (HSA.out.below b18)
                      have HSB18 := Lib.hid (HSB.out.below b18)
                      clear hfd fA b18 hca HM HEV1 HCA HCB HSA HSB
                      dsimp only
                      go_upto_region 38 with (refine wpList_store_row rfl 46 (.tmp 29) (.tmp 192) rfl w18.heap.size _ rfl rfl 46 Inf.zeros (World.alloc_heap_new _ _) HKR.out (HKZ.out _ _) (HKO.out _ _) ?_)
                      rw [World.setRow_alloc_new]
                      obtain ⟨W19, hW19⟩ : ∃ W, W = w18.alloc (.cells (x.vals hA).toArray 46) := ⟨_, rfl⟩
                      have hb19 : Below w18.heap.size w18 W19 := hW19 ▸ below_one _ _
                      have HM19 := Lib.hid (HM18.out.below hb19)
                      have HFA19 := Lib.hid (HFA.out.step (RanS.of_below hb19))
                      have HCA19 := Lib.hid (cell_stay HCA18.out hb19)
                      have HCB19 := Lib.hid (cell_stay HCB18.out hb19)
                      have HSA19 := Lib.hid (HSA18.out.below hb19)
                      have HSB19 := Lib.hid (HSB18.out.below hb19)
                      have HY19 := Lib.hid (show IBox W19 w18.heap.size x hA from hW19 ▸ World.alloc_heap_new _ _)
                      obtain ⟨bY, hbY⟩ : ∃ b, b = w18.heap.size := ⟨_, rfl⟩
                      rw [← hbY] at HY19
                      rw [← hW19, ← hbY]
                      clear hW19 hbY hb19 HM18 HFA HCA18 HCB18 HSA18 HSB18
                      have cb19 := HCB19.out.2
                      have HEV2 := Lib.hid (HM19.out.env ⟨eb, L13, mo13, v13⟩ (List.mem_cons_of_mem _ (List.mem_cons_self ..)))
                      go_wp2_with fail
                      refine (findP_any HEV2.out _ HNL.out HRD.out).mono ?_
                      intro y w20 hfd
                      obtain ⟨hB, rfl, fB, b20⟩ := hfd.yes HLQ.out
                      rw [HQX.out] at fB ⊢
                      have HM20 := Lib.hid (HM19.out.below b20)
                      have HFA20 := Lib.hid (HFA19.out.step (RanS.of_below b20))
                      have HFB := Lib.hid fB
                      have HCA20 := Lib.hid (cell_stay HCA19.out b20)
                      have HCB20 := Lib.hid (cell_stay HCB19.out b20)
                      have HSA20 := Lib.hid (HSA19.out.below b20)
                      have HSB20 := Lib.hid (HSB19.out.below b20)
                      have HY20 := Lib.hid (HY19.out.keep b20)
                      clear hfd fB b20 cb19 HM19 HEV2 HFA19 HCA19 HCB19 HSA19 HSB19 HY19
                      dsimp only
                      go_upto_region 39 with (refine wpList_store_row rfl 46 (.tmp 31) (.tmp 201) rfl w20.heap.size _ rfl rfl 46 Inf.zeros (World.alloc_heap_new _ _) HKR.out (HKZ.out _ _) (HKO.out _ _) ?_)
                      rw [World.setRow_alloc_new]
                      obtain ⟨W21, hW21⟩ : ∃ W, W = w20.alloc (.cells (x.vals hB).toArray 46) := ⟨_, rfl⟩
                      have hb21 : Below w20.heap.size w20 W21 := hW21 ▸ below_one _ _
                      have HM21 := Lib.hid (HM20.out.below hb21)
                      have HFA21 := Lib.hid (HFA20.out.step (RanS.of_below hb21)).here
                      have HFB21 := Lib.hid (HFB.out.step (RanS.of_below hb21)).here
                      have HCA21 := Lib.hid (cell_stay HCA20.out hb21)
                      have HCB21 := Lib.hid (cell_stay HCB20.out hb21)
                      have HSA21 := Lib.hid (HSA20.out.below hb21)
                      have HSB21 := Lib.hid (HSB20.out.below hb21)
                      have HY21 := Lib.hid (HY20.out.keep hb21)
                      have HZ21 := Lib.hid (show IBox W21 w20.heap.size x hB from hW21 ▸ World.alloc_heap_new _ _)
                      obtain ⟨bZ, hbZ⟩ : ∃ b, b = w20.heap.size := ⟨_, rfl⟩
                      rw [← hbZ] at HZ21
                      rw [← hW21, ← hbZ]
                      clear hW21 hbZ hb21 HM20 HFA20 HFB HCA20 HCB20 HSA20 HSB20 HY20
                      have HB21 : Hid (Below W21.heap.size W21 W21.drew) := Lib.hid (Below.refl _ _).drew
                      have HSM := Lib.hid (fun (W : World) (hW : Below W21.heap.size W21 W) => same7_any x hA hB W (Inf.carry HFA21.out hW) (Inf.carry HFB21.out hW) HX20.out)
                      go_wp2_with fail
                      refine wp_region_held_drew (S := fun w' => w'.rangeAt bY 0 (x.vals hA) ∧ w'.rangeAt bZ 0 (x.vals hB) ∧ w'.cell? ⟨ga, j, none⟩ = some (.string x.name) ∧ w'.cell? ⟨gb, j, none⟩ = some (.string x.name)) (by kernel_rfl) (⟨(HY21.out.keep HB21.out).range, (HZ21.out.keep HB21.out).range, (cell_stay HCA21.out HB21.out).2, (cell_stay HCB21.out HB21.out).2⟩) (fun hHeld => ?_)
                      refine wpAnyH_take (i := 0) (v := ?vrc820) rfl (by kernel_rfl) (by kernel_rfl) (by kernel_rfl) (fun _ _ _ h => h) (Or.inl ⟨by rfl, ?hyrc820⟩) (by assumption) ?restrc820
                      case hyrc820 => (intro w hSw; (try dsimp only at hSw); go_simp <;> with_reducible rfl)
                      try simp only [List.getElem_toArray, List.getElem_cons_zero, Act.put, List.setIfInBounds_toArray, List.set_cons_zero, List.set_cons_succ]
                      refine wpAnyH_take (i := 1) (v := ?vrc821) rfl (by kernel_rfl) (by kernel_rfl) (by kernel_rfl) (fun _ _ _ h => h) (Or.inl ⟨by rfl, ?hyrc821⟩) (by assumption) ?restrc821
                      case hyrc821 => (intro w hSw; (try dsimp only at hSw); go_simp <;> with_reducible rfl)
                      try simp only [List.getElem_toArray, List.getElem_cons_succ, List.getElem_cons_zero, Act.put, List.setIfInBounds_toArray, List.set_cons_zero, List.set_cons_succ]
                      refine wpAnyH_take (i := 2) (v := ?vrc822) rfl (by kernel_rfl) (by kernel_rfl) (by kernel_rfl) (fun _ _ _ h => h) (Or.inl ⟨by rfl, ?hyrc822⟩) (by assumption) ?restrc822
                      case hyrc822 => (intro w hSw; (try dsimp only at hSw); go_simp <;> with_reducible rfl)
                      try simp only [List.getElem_toArray, List.getElem_cons_succ, List.getElem_cons_zero, Act.put, List.setIfInBounds_toArray, List.set_cons_zero, List.set_cons_succ]
                      refine wpAnyH_take (i := 3) (v := ?vrc823) rfl (by kernel_rfl) (by kernel_rfl) (by kernel_rfl) (fun _ _ _ h => h) (Or.inl ⟨by rfl, ?hyrc823⟩) (by assumption) ?restrc823
                      case hyrc823 => (intro w hSw; (try dsimp only at hSw); go_simp <;> with_reducible rfl)
                      try simp only [List.getElem_toArray, List.getElem_cons_succ, List.getElem_cons_zero, Act.put, List.setIfInBounds_toArray, List.set_cons_zero, List.set_cons_succ]
                      refine wpAnyH_take (i := 4) (v := ?vrc824) rfl (by kernel_rfl) (by kernel_rfl) (by kernel_rfl) (fun _ _ _ h => h) (Or.inl ⟨by rfl, ?hyrc824⟩) (by assumption) ?restrc824
                      case hyrc824 => (intro w hSw; (try dsimp only at hSw); go_simp <;> with_reducible rfl)
                      try simp only [List.getElem_toArray, List.getElem_cons_succ, List.getElem_cons_zero, Act.put, List.setIfInBounds_toArray, List.set_cons_zero, List.set_cons_succ]
                      refine wpAnyH_take (i := 5) (v := ?vrc825) rfl (by kernel_rfl) (by kernel_rfl) (by kernel_rfl) (fun _ _ _ h => h) (Or.inl ⟨by rfl, ?hyrc825⟩) (by assumption) ?restrc825
                      case hyrc825 => (intro w hSw; (try dsimp only at hSw); go_simp <;> with_reducible rfl)
                      try simp only [List.getElem_toArray, List.getElem_cons_succ, List.getElem_cons_zero, Act.put, List.setIfInBounds_toArray, List.set_cons_zero, List.set_cons_succ]
                      refine wpAnyH_take (i := 6) (v := ?vrc826) rfl (by kernel_rfl) (by kernel_rfl) (by kernel_rfl) (fun _ _ _ h => h) (Or.inl ⟨by rfl, ?hyrc826⟩) (by assumption) ?restrc826
                      case hyrc826 => (intro w hSw; (try dsimp only at hSw); go_simp <;> with_reducible rfl)
                      try simp only [List.getElem_toArray, List.getElem_cons_succ, List.getElem_cons_zero, Act.put, List.setIfInBounds_toArray, List.set_cons_zero, List.set_cons_succ]
                      refine wpAnyH_take (i := 7) (v := ?vrc827) rfl (by kernel_rfl) (by kernel_rfl) (by kernel_rfl) (fun _ _ _ h => h) (Or.inl ⟨by rfl, ?hyrc827⟩) (by assumption) ?restrc827
                      case hyrc827 => (intro w hSw; (try dsimp only at hSw); go_simp <;> with_reducible rfl)
                      try simp only [List.getElem_toArray, List.getElem_cons_succ, List.getElem_cons_zero, Act.put, List.setIfInBounds_toArray, List.set_cons_zero, List.set_cons_succ]
                      refine wpAnyH_take (i := 8) (v := ?vrc828) rfl (by kernel_rfl) (by kernel_rfl) (by kernel_rfl) (fun _ _ _ h => h) (Or.inl ⟨by rfl, ?hyrc828⟩) (by assumption) ?restrc828
                      case hyrc828 => (intro w hSw; (try dsimp only at hSw); go_simp <;> with_reducible rfl)
                      try simp only [List.getElem_toArray, List.getElem_cons_succ, List.getElem_cons_zero, Act.put, List.setIfInBounds_toArray, List.set_cons_zero, List.set_cons_succ]
                      refine wpAnyH_take (i := 9) (v := ?vrc829) rfl (by kernel_rfl) (by kernel_rfl) (by kernel_rfl) (fun _ _ _ h => h) (Or.inl ⟨by rfl, ?hyrc829⟩) (by assumption) ?restrc829
                      case hyrc829 => (intro w hSw; (try dsimp only at hSw); go_simp <;> with_reducible rfl)
                      try simp only [List.getElem_toArray, List.getElem_cons_succ, List.getElem_cons_zero, Act.put, List.setIfInBounds_toArray, List.set_cons_zero, List.set_cons_succ]
                      refine wpAnyH_take (i := 10) (v := .agg (x.vals hA).toArray) rfl (by kernel_rfl) (by kernel_rfl) (by kernel_rfl) (fun _ _ _ h => h) (yieldsIf_load_mid rfl 46 (.tmp 29) rfl bY 0 rfl (x.vals hA) _ (fun _ h => h.1) Tryz.underlying46 rfl HKL.out) (by assumption) ?_
                      try simp only [List.getElem_toArray, List.getElem_cons_succ, List.getElem_cons_zero, Act.put, List.setIfInBounds_toArray, List.set_cons_zero, List.set_cons_succ]
                      refine wpAnyH_take (i := 11) (v := .agg (x.vals hB).toArray) rfl (by kernel_rfl) (by kernel_rfl) (by kernel_rfl) (fun _ _ _ h => h) (yieldsIf_load_mid rfl 46 (.tmp 31) rfl bZ 0 rfl (x.vals hB) _ (fun _ h => h.2.1) Tryz.underlying46 rfl HKL.out) (by assumption) ?_
                      try simp only [List.getElem_toArray, List.getElem_cons_succ, List.getElem_cons_zero, Act.put, List.setIfInBounds_toArray, List.set_cons_zero, List.set_cons_succ]
                      refine wpAnyH_ready (rs := [12]) (by kernel_rfl) (by simp) ?_
                      refine AllReadyH.cons rfl (fun K hK => ?_) AllReadyH.nil
                      go_simp
                      refine (HSM.out _ HB21.out).mono ?_
                      rintro y v3 ⟨rfl, c3⟩
                      have HB22 := Lib.hid (Trm.go HB21.out c3)
                      clear c3
                      refine hK.out _ _ (⟨(HY21.out.keep HB22.out).range, (HZ21.out.keep HB22.out).range, (cell_stay HCA21.out HB22.out).2, (cell_stay HCB21.out HB22.out).2⟩) (fun hHeld => ?_)
                      clear hK K
                      try simp only [List.getElem_toArray, List.getElem_cons_succ, List.getElem_cons_zero, Act.put, List.setIfInBounds_toArray, List.set_cons_zero, List.set_cons_succ]
                      refine wpAnyH_take (i := 13) (v := ?vrc8213) rfl (by kernel_rfl) (by kernel_rfl) (by kernel_rfl) (fun _ _ _ h => h) (Or.inl ⟨by rfl, ?hyrc8213⟩) (by assumption) ?restrc8213
                      case hyrc8213 => (intro w hSw; (try dsimp only at hSw); go_simp <;> with_reducible rfl)
                      try simp only [List.getElem_toArray, List.getElem_cons_succ, List.getElem_cons_zero, Act.put, List.setIfInBounds_toArray, List.set_cons_zero, List.set_cons_succ]
                      refine wpAnyH_take (i := 14) (v := ?vrc8214) rfl (by kernel_rfl) (by kernel_rfl) (by kernel_rfl) (fun _ _ _ h => h) (Or.inl ⟨by rfl, ?hyrc8214⟩) (by assumption) ?restrc8214
                      case hyrc8214 => (intro w hSw; (try dsimp only at hSw); go_simp <;> with_reducible rfl)
                      try simp only [List.getElem_toArray, List.getElem_cons_succ, List.getElem_cons_zero, Act.put, List.setIfInBounds_toArray, List.set_cons_zero, List.set_cons_succ]
                      refine wpAnyH_done (by kernel_rfl) ?_ _
                      have HM22 := Lib.hid (HM21.out.below HB22.out)
                      have HSA22 := Lib.hid (HSA21.out.below HB22.out)
                      have HSB22 := Lib.hid (HSB21.out.below HB22.out)
                      go_wp2_with fail
                      go_roundw
                      case rel => exact ⟨j + 1, by first | rfl | (rw [hwj]; rfl), HLJ.out, HM22.out, HSA22.out, HSB22.out⟩
                      case measure => first | exact less_step rfl HLJ.out | exact less_step hwj HLJ.out
                    · have HB14 := Lib.hid HM.out.bel
                      clear HM
                      go_wp2_with fail
                      refine (works7_any _).mono ?_
                      rintro y wz ⟨rfl, bz⟩
                      have HBZ := Lib.hid (Trm.go HB14.out bz)
                      clear bz
                      go_wp2_with fail
                      go_ret
                      exact ⟨rfl, HBZ.out⟩
              · go_wp2_with fail
                refine (works7_any _).mono ?_
                rintro y wz ⟨rfl, bz⟩
                have HBZ := Lib.hid (Trm.go HM9.out.bel bz)
                clear bz
                go_wp2_with fail
                go_ret
                exact ⟨rfl, HBZ.out⟩
            · go_wp2_with fail
              refine (works7_any _).mono ?_
              rintro y wz ⟨rfl, bz⟩
              have HBZ := Lib.hid (Trm.go HM9.out.bel bz)
              clear bz
              go_wp2_with fail
              go_ret
              exact ⟨rfl, HBZ.out⟩
end Go.Proofs.YtiekbhlnnmnklaaGreat


