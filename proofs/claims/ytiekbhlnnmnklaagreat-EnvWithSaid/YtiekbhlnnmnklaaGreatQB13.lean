/-
  env where there is no environment.
-/
import Derived.Test.YtiekbhlnnmnklaaGreatQB12
import Derived.Deep.AppendLies
import Derived.Test.YtiekbhlnnmnklaaGreatQB7
import Derived.Test.YtiekbhlnnmnklaaGreatQB10
import Derived.Test.YtiekbhlnnmnklaaGreatQB5
import Derived.Great.Walk
namespace Go.Proofs.YtiekbhlnnmnklaaGreat
open Go.RowKit Go.Shelf Go.Maps Lvl Trm Env

namespace Env
def zI : Inf := ⟨0, no, 0, zeroT, zeroT, 0, no, no, 0, 0, 0, 0, 0, 0, [], 0, false⟩
def zIHd : IHd := ⟨zHd, zHd, none, 0⟩
theorem zI_vals : (zI.vals zIHd).toArray = Inf.zeros := rfl
theorem zI_firm {P : Nat → Prop} {w : World} : FirmI P w zI zIHd := ⟨⟨by decide, by decide, by decide, by decide⟩, firm_zero, firm_zero, ⟨fun k hk => by simp [zI] at hk⟩⟩
end Env

set_option maxRecDepth 100000 in
theorem add_nil (a : Option Addr) (n c : Nat) (w : World) : Calls Tryz.prog 20 #[.pointer none, .slice a n c] w fun e w' => e = .returned (.int .i64 2) ∧ w = w' := by
  go_enter Tryz.func20, Tryz.ntmps20
  go_wp2_with fail
  go_ret
  exact ⟨rfl, rfl⟩
set_option maxRecDepth 100000 in
theorem with_nil (a : Option Addr) (n c : Nat) (w : World) : Calls Tryz.prog 19 #[.pointer none, .slice a n c] w fun e w' => e = .returned (.tuple #[.pointer none, .int .i64 2]) ∧ w = w' := by
  obtain ⟨Q, hQ⟩ : ∃ Q : Ending → World → Prop, Q = fun e w' => e = .returned (.tuple #[.pointer none, .int .i64 2]) ∧ w = w' := ⟨_, rfl⟩
  rw [← hQ]
  have HE : Hid (Q (.returned (.tuple #[.pointer none, .int .i64 2])) w) := Lib.hid (by rw [hQ]; exact ⟨rfl, rfl⟩)
  clear hQ
  go_enter Tryz.func19, Tryz.ntmps19
  go_wp2_with fail
  exact HE.out
set_option maxRecDepth 100000 in
theorem list_nil (w : World) : Calls Tryz.prog 18 #[.pointer none] w fun e w' => e = .returned (.slice none 0 0) ∧ w = w' := by
  go_enter Tryz.func18, Tryz.ntmps18
  go_wp2_with fail
  go_ret
  exact ⟨rfl, rfl⟩
set_option maxRecDepth 100000 in
theorem of_nil (t : Tm) (hd : Hd) (w : World) : Calls Tryz.prog 63 #[.pointer none, t.val hd] w fun e w' => e = .returned (.tuple #[.pointer none, .int .i64 2]) ∧ Below w.heap.size w w' := by
  obtain ⟨Q, hQ⟩ : ∃ Q : Ending → World → Prop, Q = fun e w' => e = .returned (.tuple #[.pointer none, .int .i64 2]) ∧ Below w.heap.size w w' := ⟨_, rfl⟩
  rw [← hQ]
  have HE : Hid (Q (.returned (.tuple #[.pointer none, .int .i64 2])) (w.alloc (t.box hd))) := Lib.hid (by rw [hQ]; exact ⟨rfl, below_one _ _⟩)
  clear hQ
  unfold Tm.box Tm.vals at HE
  unfold Tm.val Tm.vals
  go_enter Tryz.func63, Tryz.ntmps63
  go_wp2_with fail
  exact HE.out
set_option maxRecDepth 100000 in
set_option maxHeartbeats 1000000 in
theorem find_nil (s : ByteArray) (w : World) : Calls Tryz.prog 23 #[.pointer none, .string s] w fun e w' => e = .returned (.tuple #[zInfo, .bool false]) ∧ Below w.heap.size w w' := by
  obtain ⟨WA, hWA⟩ : ∃ WA, WA = w.alloc (.cells Inf.zeros 46) := ⟨_, rfl⟩
  have HBA := Lib.hid (show Below w.heap.size w WA from hWA ▸ below_one _ _)
  have HZ := Lib.hid (show WA.heap[w.heap.size]? = some (.cells Inf.zeros 46) from hWA ▸ World.alloc_heap_new _ _)
  have HKI : Hid ((Tryz.prog.info? 46).map (·.size) = some 25) := Lib.hid infoInf
  have HC25 : Hid ((Tryz.prog.info? 46).map (·.size) = some Inf.zeros.size) := Lib.hid HKI.out
  have HONE : Hid (Inf.zeros.all (·.oneCell') = true) := Lib.hid (by kernel_rfl)
  unfold Inf.zeros at hWA
  go_enter Tryz.func23, Tryz.ntmps23
  go_upto_region 1 with fail
  rw [← hWA]
  clear hWA
  go_wp2_with fail
  refine (at_nil _ _).mono ?_
  rintro y w' ⟨rfl, rfl⟩
  go_wp2_with (first
    | (refine wpList_buildTo rfl 46 _ rfl (some 12) rfl Inf.zeros (by kernel_rfl) ?_)
    | (refine wpList_store_row rfl 46 (.tmp 4) (.tmp 12) rfl w.heap.size Inf.zeros rfl rfl 46 Inf.zeros HZ.out HC25.out rfl HONE.out ?_))
  exact bodyPost_ret_by (results_two rfl _ _ w.heap.size _ (.bool false) rfl rfl (run_loadVar_row _ _ _ _ _ _ _ (setRow_heap WA _ _ _ _ _ HZ.out) Tryz.underlying46 rfl HC25.out)) rfl ⟨rfl, below_setRow HBA.out (Nat.le_refl _) _⟩

set_option maxRecDepth 100000 in
set_option maxHeartbeats 1000000 in
theorem type_nil (t : Tm) (hd : Hd) (w : World) : Calls Tryz.prog 25 #[.pointer none, t.val hd] w (TAns (zeroT, 2) w) := by
  obtain ⟨WB, hWB⟩ : ∃ WB, WB = (w.alloc (t.box hd)).alloc (.cells #[.int .u8 0, .int .i64 0, .string no, .slice none 0 0, .slice none 0 0] 27) := ⟨_, rfl⟩
  have HBB := Lib.hid (show Below w.heap.size w WB from hWB ▸ below_two _ _ _)
  have HBA := Lib.hid (show WB.heap[w.heap.size + 1]? = some (.cells #[.int .u8 0, .int .i64 0, .string no, .slice none 0 0, .slice none 0 0] 27) from hWB ▸ new2 _ _ _)
  have HOF2 := Lib.hid (fun (W : World) => of_nil t hd W)
  unfold Tm.val Tm.vals at *
  go_enter Tryz.func25, Tryz.ntmps25
  unfold Tm.box Tm.vals no at hWB
  go_wp2_with fail
  rw [← hWB]
  clear hWB
  refine (HOF2.out WB).mono ?_
  rintro y w1 ⟨rfl, b1⟩
  have hA1 := Lvl.keep b1 HBA.out
  have HB1 := Lib.hid (Trm.go HBB.out b1)
  obtain ⟨a0, a1, a2, a3, a4⟩ := five_cells hA1
  obtain ⟨f0, f1, f2, f3, f4⟩ := five_free hA1
  have HA1 := Lib.hid hA1
  clear hA1 b1 HOF2
  go_wp2_with fail
  have h5 := putT_self HA1.out (.int .u8 0) (.int .i64 0) (.string no) (.slice none 0 0) (.slice none 0 0)
  have b5 := putT_below HB1.out (by omega : w.heap.size ≤ w.heap.size + 1) (.int .u8 0) (.int .i64 0) (.string no) (.slice none 0 0) (.slice none 0 0)
  unfold putT no at h5 b5
  generalize hW : ((((w1.setCell ⟨w.heap.size + 1, 0, none⟩ (.int .u8 0)).setCell ⟨w.heap.size + 1, 1, none⟩ (.int .i64 0)).setCell ⟨w.heap.size + 1, 2, none⟩ (.string ⟨#[]⟩)).setCell ⟨w.heap.size + 1, 3, none⟩ (.slice none 0 0)).setCell ⟨w.heap.size + 1, 4, none⟩ (.slice none 0 0) = W4 at h5 b5 ⊢
  obtain ⟨e0, e1, e2, e3, e4⟩ := five_cells h5
  clear hW
  exact bodyPost_ret (v := .tuple #[zeroT.val ⟨none, 0, none, 0⟩, .int .i64 2]) (by simp [results, Tryz.results25, go_sem, e0, e1, e2, e3, e4, zeroT, Tm.val, Tm.vals, Tm.k, Tm.n, Tm.s, Tm.ls, Tm.ts, no]) rfl ⟨⟨none, 0, none, 0⟩, rfl, leaf_in (by decide) (by decide) (by decide) (by decide) (by decide), b5⟩

set_option maxRecDepth 100000 in
set_option maxHeartbeats 1000000 in
theorem value_nil (t : Tm) (hd : Hd) (w : World) : Calls Tryz.prog 27 #[.pointer none, t.val hd] w (TAns (zeroT, 2) w) := by
  obtain ⟨WB, hWB⟩ : ∃ WB, WB = (w.alloc (t.box hd)).alloc (.cells #[.int .u8 0, .int .i64 0, .string no, .slice none 0 0, .slice none 0 0] 27) := ⟨_, rfl⟩
  have HBB := Lib.hid (show Below w.heap.size w WB from hWB ▸ below_two _ _ _)
  have HBA := Lib.hid (show WB.heap[w.heap.size + 1]? = some (.cells #[.int .u8 0, .int .i64 0, .string no, .slice none 0 0, .slice none 0 0] 27) from hWB ▸ new2 _ _ _)
  have HOF2 := Lib.hid (fun (W : World) => of_nil t hd W)
  unfold Tm.val Tm.vals at *
  go_enter Tryz.func27, Tryz.ntmps27
  unfold Tm.box Tm.vals no at hWB
  go_wp2_with fail
  rw [← hWB]
  clear hWB
  refine (HOF2.out WB).mono ?_
  rintro y w1 ⟨rfl, b1⟩
  have hA1 := Lvl.keep b1 HBA.out
  have HB1 := Lib.hid (Trm.go HBB.out b1)
  obtain ⟨a0, a1, a2, a3, a4⟩ := five_cells hA1
  obtain ⟨f0, f1, f2, f3, f4⟩ := five_free hA1
  have HA1 := Lib.hid hA1
  clear hA1 b1 HOF2
  go_wp2_with fail
  have h5 := putT_self HA1.out (.int .u8 0) (.int .i64 0) (.string no) (.slice none 0 0) (.slice none 0 0)
  have b5 := putT_below HB1.out (by omega : w.heap.size ≤ w.heap.size + 1) (.int .u8 0) (.int .i64 0) (.string no) (.slice none 0 0) (.slice none 0 0)
  unfold putT no at h5 b5
  generalize hW : ((((w1.setCell ⟨w.heap.size + 1, 0, none⟩ (.int .u8 0)).setCell ⟨w.heap.size + 1, 1, none⟩ (.int .i64 0)).setCell ⟨w.heap.size + 1, 2, none⟩ (.string ⟨#[]⟩)).setCell ⟨w.heap.size + 1, 3, none⟩ (.slice none 0 0)).setCell ⟨w.heap.size + 1, 4, none⟩ (.slice none 0 0) = W4 at h5 b5 ⊢
  obtain ⟨e0, e1, e2, e3, e4⟩ := five_cells h5
  clear hW
  exact bodyPost_ret (v := .tuple #[zeroT.val ⟨none, 0, none, 0⟩, .int .i64 2]) (by simp [results, Tryz.results27, go_sem, e0, e1, e2, e3, e4, zeroT, Tm.val, Tm.vals, Tm.k, Tm.n, Tm.s, Tm.ls, Tm.ts, no]) rfl ⟨⟨none, 0, none, 0⟩, rfl, leaf_in (by decide) (by decide) (by decide) (by decide) (by decide), b5⟩

set_option maxRecDepth 100000 in
set_option maxHeartbeats 2000000 in
theorem height_nil (t : Tm) (ht : Hd) (w : World) (hin : t.In w.heap.size w ht) :
    Calls Tryz.prog 31 #[.pointer none, t.val ht] w fun y w' => y = .returned (.int .i64 0) ∧ Below w.heap.size w w' := by
  obtain ⟨WA, hWA⟩ : ∃ WA, WA = w.alloc (t.box ht) := ⟨_, rfl⟩
  have HBA := Lib.hid (show Below w.heap.size w WA from hWA ▸ below_one _ _)
  have HBX := Lib.hid (show WA.heap[w.heap.size]? = some (t.box ht) from hWA ▸ World.alloc_heap_new w _)
  have HN := Lib.hid (Names_any t ht WA (carry hin HBA.out))
  clear hin
  unfold Tm.val Tm.vals at *
  go_enter Tryz.func31, Tryz.ntmps31
  unfold Tm.box Tm.vals at hWA
  go_upto_region 1 with fail
  rw [← hWA]
  clear hWA
  obtain ⟨x0, x1, x2, x3, x4⟩ := Tm.cells HBX.out
  go_wp2_with fail
  refine HN.out.mono ?_
  rintro y w1 ⟨ao, cp, l, rfl, hsr, _, hlen, b1⟩
  have HFEW := Lib.hid hlen
  have HSR := Lib.hid hsr
  have HB1 := Lib.hid (Trm.go HBA.out b1)
  clear hsr hlen b1 x0 x1 x2 x3 x4
  go_wp2_with fail
  go_loopw [5, 12] (fun v i wr => ∃ k : Nat, i = .int .i64 k ∧ v = .int .i64 0 ∧ k ≤ l.length ∧ w1 = wr) (fun _ i _ => l.length - (intOf i).toNat)
  case atStart => exact ⟨0, rfl, rfl, by omega, rfl⟩
  case round =>
    obtain ⟨k, rfl, rfl, hk, rfl⟩ := hrel
    by_cases hlt : k < l.length
    · obtain ⟨b, off, hao, hb, hc⟩ := HSR.out.place k hlt
      subst hao
      have hwk : wrap64 ((k : Int) + 1) = (k : Int) + 1 := IntWalk.wrap64_in _ (by have := HFEW.out; omega)
      have HLT := Lib.hid hlt
      generalize (⟨l[k].toArray⟩ : ByteArray) = s at hc
      go_wp2_with fail
      refine (at_nil _ _).mono ?_
      rintro y w' ⟨rfl, rfl⟩
      go_wp2_with fail
      go_roundw
      case rel => rw [hwk]; exact ⟨k + 1, rfl, rfl, HLT.out, by trivial⟩
      case measure => exact less_step hwk HLT.out
    · have hke : k = l.length := by omega
      subst hke
      go_wp2_with fail
      go_ret
      exact ⟨rfl, HB1.out⟩
end Go.Proofs.YtiekbhlnnmnklaaGreat


namespace Go.Proofs.YtiekbhlnnmnklaaGreat
open Go.RowKit Go.Shelf Go.Maps Lvl Trm Env

theorem Env.firm_leaf {P : Nat → Prop} {w : World} {k n : Int} {s : ByteArray} {lc tc : Nat} (hk0 : 0 ≤ k) (hk1 : k ≤ 255) (hn0 : -9223372036854775808 ≤ n) (hn1 : n ≤ 9223372036854775807) (hs : s.size ≤ 9223372036854775807) : FirmS P w (.mk k n s [] []) ⟨none, lc, none, tc⟩ :=
  fun _ _ => leaf_in hk0 hk1 hn0 hn1 hs
/-- A term is answered that lies there whatever is written into old blocks. -/
def Env.MadeE (t : Tm) (w : World) (e : Ending) (w' : World) : Prop := ∃ h, e = .returned (t.val h) ∧ Below w.heap.size w w' ∧ ∀ P : Nat → Prop, (∀ q, P q → q < w.heap.size) → FirmS P w' t h

set_option maxRecDepth 100000 in
set_option maxHeartbeats 1000000 in
theorem SE_any (w : World) : Calls Tryz.prog 22 #[] w (MadeE tS w) := by
  go_enter Tryz.func22, Tryz.ntmps22
  go_wp2_with fail
  refine (RefZero_any _).mono ?_
  rintro e w1 ⟨rfl, b1⟩
  have hk := Lvl.keep b1 (World.alloc_heap_new w _)
  have hz := b1.size
  simp only [World.size_alloc] at hz
  have HB := Lib.hid ((below_one w _).trans (b1.mono (B' := w.heap.size) (by simp)))
  clear b1
  have hlt : w.heap.size < w1.heap.size := by omega
  obtain ⟨c0, c1, c2, c3, c4⟩ := five_cells hk
  obtain ⟨f0, f1, f2, f3, f4⟩ := five_free hk
  have HK := Lib.hid hk
  clear hk
  dsimp only [Lv.val, number]
  go_wp2_with fail
  have h5 := putT_self HK.out (.int .u8 1) (.int .i64 0) (.string no) (.slice (some ⟨w1.heap.size, 0, none⟩) 1 1) (.slice none 0 0)
  have b5 := putT_below HB.out (B := w.heap.size) (Nat.le_refl _) (.int .u8 1) (.int .i64 0) (.string no) (.slice (some ⟨w1.heap.size, 0, none⟩) 1 1) (.slice none 0 0)
  have z5 := putT_size w1 w.heap.size (.int .u8 1) (.int .i64 0) (.string no) (.slice (some ⟨w1.heap.size, 0, none⟩) 1 1) (.slice none 0 0)
  unfold putT no at h5 b5 z5
  generalize hW : ((((w1.setCell ⟨w.heap.size, 0, none⟩ (.int .u8 1)).setCell ⟨w.heap.size, 1, none⟩ (.int .i64 0)).setCell ⟨w.heap.size, 2, none⟩ (.string ⟨#[]⟩)).setCell ⟨w.heap.size, 3, none⟩ (.slice (some ⟨w1.heap.size, 0, none⟩) 1 1)).setCell ⟨w.heap.size, 4, none⟩ (.slice none 0 0) = W4 at h5 b5 z5 ⊢
  have l5 := World.alloc_heap_new W4 (.cells #[.int .i64 0, .int .i64 (-1), .int .i64 (-1), .int .i64 (-1), .int .i64 (-1)] 61)
  rw [z5] at l5
  obtain ⟨e0, e1, e2, e3, e4⟩ := five_cells (keepA h5 (.cells #[.int .i64 0, .int .i64 (-1), .int .i64 (-1), .int .i64 (-1), .int .i64 (-1)] 61))
  clear hW
  exact bodyPost_ret (v := tS.val ⟨some ⟨w1.heap.size, 0, none⟩, 1, none, 0⟩) (by simp [results, Tryz.results22, go_sem, e0, e1, e2, e3, e4, tS, Tm.val, Tm.vals, Tm.k, Tm.n, Tm.s, Tm.ls, Tm.ts, no]) rfl ⟨_, rfl, b5.alloc b5.size _, fun P hP w2 hr => tS_in (hr.keep l5 (fun a => by have := hP _ a; omega)) (by have := hr.size; rw [World.size_alloc] at this; omega)⟩

set_option maxRecDepth 100000 in
theorem CE_any (s : ByteArray) (w : World) :
    Calls Tryz.prog 54 #[.string s] w (fun e w' => e = .returned ((tC s).val zHd) ∧ Below w.heap.size w w') := by
  go_enter Tryz.func54, Tryz.ntmps54
  go_wp2_with fail
  exact bodyPost_ret (v := (tC s).val zHd) (by simp [results, Tryz.results54, go_sem, tC, Tm.val, Tm.vals, Tm.k, Tm.n, Tm.s, Tm.ls, Tm.ts, zHd]) rfl ⟨rfl, below_one _ _⟩
theorem Env.C_firm {P : Nat → Prop} {w : World} (s : ByteArray) (hs : s.size ≤ 9223372036854775807) : FirmS P w (tC s) zHd := firm_leaf (by decide) (by decide) (by decide) (by decide) hs

namespace Env
/-- An axiom, a definition. -/
def ax (s : ByteArray) (t : Tm) : Inf := { zI with kind := 1, name := s, ty := t }
def df (s : ByteArray) (t u : Tm) : Inf := { zI with kind := 2, name := s, ty := t, va := u }
theorem ax_firm {P : Nat → Prop} {w : World} {s : ByteArray} {t : Tm} {h : Hd} (hs : s.size ≤ 9223372036854775807) (f : FirmS P w t h) : FirmI P w (ax s t) { zIHd with ty := h } := ⟨⟨(by decide : (0 : Int) ≤ 1), (by decide : (1 : Int) ≤ 255), hs, (by decide : (0 : Nat) ≤ 9223372036854775807)⟩, f, firm_zero, ⟨fun k hk => by simp [ax, zI] at hk⟩⟩
theorem df_firm {P : Nat → Prop} {w : World} {s : ByteArray} {t u : Tm} {h g : Hd} (hs : s.size ≤ 9223372036854775807) (f : FirmS P w t h) (k : FirmS P w u g) : FirmI P w (df s t u) { zIHd with ty := h, va := g } := ⟨⟨(by decide : (0 : Int) ≤ 2), (by decide : (2 : Int) ≤ 255), hs, (by decide : (0 : Nat) ≤ 9223372036854775807)⟩, f, k, ⟨fun k hk => by simp [df, zI] at hk⟩⟩
/-- A row of one info, in a block of its own. -/
theorem one_row {P : Nat → Prop} {W : World} {x : Inf} {h : IHd} (f : FirmI P W x h) (hP : ∀ q, P q → q < W.heap.size) (ty : TypeId) : InfFirm P (W.alloc (.cells (x.vals h).toArray ty)) (some ⟨W.heap.size, 0, none⟩) [x] := ⟨fun k hk => by
  have hk0 : k = 0 := by simp at hk; omega
  subst hk0
  refine ⟨W.heap.size, 0, h, rfl, by rw [World.size_alloc]; omega, fun a => by have := hP _ a; omega, fun j v hv => ?_, f.step (RanS.of_below (below_one _ _))⟩
  have hn := World.alloc_heap_new W (.cells (x.vals h).toArray ty)
  have hv2 : (x.vals h)[j]? = some v := hv
  rw [show 0 + 0 * 25 + j = j by omega]
  unfold World.cell?
  show (match (W.alloc (.cells (x.vals h).toArray ty)).heap[W.heap.size]? with | some (.cells c _ _) => c[j]? | _ => none) = some v
  rw [hn]
  simpa using hv2⟩
/-- An environment that the call has made. -/
structure WS (w W : World) (P : Nat → Prop) (e : Nat) (L : List Ent) (mo : Option Nat) (v : Value) : Prop where
  env : EnvP P w.heap.size W e L mo v
  base : ∀ q, P q → w.heap.size ≤ q
  bel : Below w.heap.size w W
theorem WS.below {w W W' : World} {P : Nat → Prop} {e : Nat} {L : List Ent} {mo : Option Nat} {v : Value} (h : WS w W P e L mo v) (b : Below W.heap.size W W') : WS w W' P e L mo v := ⟨h.env.below b, h.base, Trm.go h.bel b⟩
theorem WS.add {w W W' : World} {P : Nat → Prop} {e : Nat} {L : List Ent} {mo : Option Nat} {v : Value} {l : List Inf} {y : Ending} (h : WS w W P e L mo v) (a : AddP P w.heap.size e L mo v W l y W') :
    y = .returned (.int .i64 (addA L l)) ∧ ∃ M mo' v' P', AddTo L l M ∧ WS w W' P' e M mo' v' ∧ Step P P' W W' := by
  obtain ⟨hy, M, mo', v', P', h1, h2, h3, h4, h5, h6⟩ := a
  have hs := h.bel.size
  have hb : ∀ q, P' q → w.heap.size ≤ q := fun q hq => by
    rcases h3.own q hq with b | b
    · exact h.base q b
    · omega
  exact ⟨hy, M, mo', v', P', h1, ⟨h2, hb, h.bel.trans (h3.ran.below h.base hs)⟩, h3⟩
theorem WS.new {w w0 : World} (hb : Below w0.heap.size w0 w) : WS w0 (w.alloc (.cells #[.map none, .slice none 0 0] 99)) (fun q => q = w.heap.size) w.heap.size [] none (.slice none 0 0) := by
  have h := EnvB.start (w := w) hb.size
  have ho : ∀ q, ownE w.heap.size (.slice none 0 0) none q → q = w.heap.size := by
    rintro q (hq | hq | hq)
    · exact hq
    · simp [Value.ownBlock] at hq
    · cases hq
  exact ⟨⟨h, ho, fun q hq => by rw [hq, World.size_alloc]; omega, fun p hp => by simp at hp⟩, fun q hq => by rw [hq]; exact hb.size, hb.trans ((below_one _ _).mono hb.size)⟩
theorem Added.one {L M : List Ent} {x : Inf} (h : Added L [x] M) : ∃ b hd, M = L ++ [(b, fixI L x, hd)] := by
  generalize hl : [x] = l at h
  cases h with
  | nil => cases hl
  | snoc y b hd h2 =>
    rename_i l2 M2
    have h3 : l2 = [] ∧ x = y := by
      cases l2 with
      | nil => simp at hl; exact ⟨rfl, hl⟩
      | cons a r => simp at hl
    obtain ⟨rfl, rfl⟩ := h3
    have : M2 = L := by
      generalize hn : ([] : List Inf) = l3 at h2
      cases h2 with
      | nil => rfl
      | snoc y b hd h4 => simp at hn
    subst this
    exact ⟨b, hd, rfl⟩
theorem AddTo.yes {L M : List Ent} {l : List Inf} (a : AddTo L l M) (h : addA L l = 0) : Added L l M := by
  rcases a with a | a
  · exact a.2
  · exact absurd h a.1
theorem AddTo.no {L M : List Ent} {l : List Inf} (a : AddTo L l M) (h : addA L l ≠ 0) : M = L := by
  rcases a with a | a
  · exact absurd a.1 h
  · exact a.2
/-- One info is added that stands in a new block. -/
theorem WS.addOne {w W : World} {P : Nat → Prop} {e : Nat} {L : List Ent} {mo : Option Nat} {v : Value} {x : Inf} {hx : IHd} (h : WS w W P e L mo v) (f : FirmI P W x hx) (hr : x.rules.length ≤ 1000) :
    Calls Tryz.prog 20 #[.pointer (some ⟨e, 0, none⟩), .slice (some ⟨W.heap.size, 0, none⟩) 1 1] (W.alloc (.cells (x.vals hx).toArray 46)) fun y W' =>
      y = .returned (.int .i64 (addA L [x])) ∧ ∃ M mo' v' P', AddTo L [x] M ∧ WS w W' P' e M mo' v' ∧ Step P P' W W' := by
  have hb : Below W.heap.size W (W.alloc (.cells (x.vals hx).toArray 46)) := below_one _ _
  have h2 := h.below hb
  refine (addP_any h2.env [x] (some ⟨W.heap.size, 0, none⟩) 1 (one_row f h.env.lt _) (by simp) (fun y hy => by simp at hy; subst hy; exact hr)).mono ?_
  intro y W' a
  obtain ⟨hy, M, mo', v', P', h3, h4, h5⟩ := h2.add a
  exact ⟨hy, M, mo', v', P', h3, h4, (Step.of_below hb).trans h5⟩
/-- An info in a block of its own. -/
def HoldI (P : Nat → Prop) (W : World) (b : Nat) (x : Inf) (h : IHd) : Prop := W.heap[b]? = some (.cells (x.vals h).toArray 46) ∧ ¬ P b ∧ FirmI P W x h
theorem HoldI.step {P P' : Nat → Prop} {W W' : World} {b : Nat} {x : Inf} {h : IHd} (k : HoldI P W b x h) (s : Step P P' W W') : HoldI P' W' b x h := ⟨(s.block k.1 k.2.1).1, (s.block k.1 k.2.1).2, s.inf k.2.2⟩
theorem HoldI.new {P : Nat → Prop} {W : World} {x : Inf} {h : IHd} (f : FirmI P W x h) (hP : ∀ q, P q → q < W.heap.size) : HoldI P (W.alloc (.cells (x.vals h).toArray 46)) W.heap.size x h :=
  ⟨World.alloc_heap_new _ _, fun a => by have := hP _ a; omega, f.step (RanS.of_below (below_one _ _))⟩
theorem FdPost.yes {P : Nat → Prop} {L : List Ent} {k : List UInt8} {w w' : World} {y : Ending} {p : Ent} (a : FdPost P L k w y w') (h : lookE L k = some p) :
    ∃ hd, y = .returned (.tuple #[.agg (p.2.1.vals hd).toArray, .bool true]) ∧ FirmI P w' p.2.1 hd ∧ Below w.heap.size w w' := by
  obtain ⟨b, ⟨h1, _⟩ | ⟨q, hd, h1, h2, h3⟩⟩ := a
  · rw [h] at h1; cases h1
  · rw [h] at h1; injection h1 with h1; subst h1; exact ⟨hd, h2, h3, b⟩
theorem FdPost.no {P : Nat → Prop} {L : List Ent} {k : List UInt8} {w w' : World} {y : Ending} (a : FdPost P L k w y w') (h : lookE L k = none) :
    y = .returned (.tuple #[zInfo, .bool false]) ∧ Below w.heap.size w w' := by
  obtain ⟨b, ⟨_, h1⟩ | ⟨q, hd, h1, _⟩⟩ := a
  · exact ⟨h1, b⟩
  · rw [h] at h1; cases h1
end Env
theorem findP_any {P : Nat → Prop} {B : Nat} {w : World} {e : Nat} {L : List Ent} {mo : Option Nat} {v : Value} (h : EnvP P B w e L mo v) (s : ByteArray) (hs : s.size ≤ maxLen) (hrs : ∀ p ∈ L, p.2.1.rules.length ≤ 1000) :
    Calls Tryz.prog 23 #[.pointer (some ⟨e, 0, none⟩), .string s] w (FdPost P L (key s) w) := find_any h.env h.lt (fun p hp => (h.ent p hp).2) s hs hrs
end Go.Proofs.YtiekbhlnnmnklaaGreat


namespace Go.Proofs.YtiekbhlnnmnklaaGreat
open Go.RowKit Go.Shelf Go.Maps Lvl Trm Env

namespace Env
theorem infoInf3 : (Tryz.prog.info? 46).map (fun i => (i.zero, i.size, i.bytes)) = some (some (.agg Inf.zeros), 25, 320) := by kernel_rfl
def flatI (ps : List (Inf × IHd)) : List Value := ps.flatMap fun p => p.1.vals p.2
theorem flatI_len : ∀ ps : List (Inf × IHd), (flatI ps).length = ps.length * 25
  | [] => rfl
  | p :: r => by
    have h1 := flatI_len r
    unfold flatI at h1 ⊢
    rw [List.flatMap_cons, List.length_append, h1, Inf.len, List.length_cons]
    omega
theorem flatI_at : ∀ (ps : List (Inf × IHd)) (i : Nat) (hi : i < ps.length) (j : Nat), j < 25 → (flatI ps)[i * 25 + j]? = (ps[i].1.vals ps[i].2)[j]?
  | p :: r, 0, _, j, hj => by
    unfold flatI
    rw [List.flatMap_cons, List.getElem?_append_left (by rw [Inf.len]; omega)]
    simp
  | p :: r, i + 1, hi, j, hj => by
    have h1 := flatI_at r i (by simpa using hi) j hj
    unfold flatI at h1 ⊢
    rw [List.flatMap_cons, List.getElem?_append_right (by rw [Inf.len]; omega), Inf.len, show (i + 1) * 25 + j - 25 = i * 25 + j by omega, h1]
    simp
theorem flatI_snoc (ps : List (Inf × IHd)) (x : Inf) (h : IHd) : flatI (ps ++ [(x, h)]) = flatI ps ++ x.vals h := by simp [flatI]
/-- A row of infos that the call has made. -/
structure InRow (P : Nat → Prop) (B : Nat) (w : World) (v : Value) (ps : List (Inf × IHd)) : Prop where
  row : w.ownsRow B 46 25 v ps.length (flatI ps)
  own : ∀ q, v.ownBlock = some q → P q
  firm : ∀ p ∈ ps, FirmI P w p.1 p.2
theorem InRow.at {P : Nat → Prop} {B : Nat} {w : World} {v : Value} {ps : List (Inf × IHd)} (h : InRow P B w v ps) {k : Nat} (hk : k < ps.length) :
    ∃ g cap, v = .slice (some ⟨g, 0, none⟩) ps.length cap ∧ w.rangeAt g (k * 25) (ps[k].1.vals ps[k].2) ∧ g < w.heap.size ∧ P g := by
  obtain ⟨g, cap, hv, _, hg⟩ := h.row.form (by omega)
  refine ⟨g, cap, hv, fun j u hu => ?_, hg, h.own g (by rw [hv]; rfl)⟩
  subst hv
  have hj : j < 25 := by have := (List.getElem?_eq_some_iff.1 hu).1; rw [Inf.len] at this; exact this
  have h1 := h.row.cells (g := g) rfl (k * 25 + j) u (by rw [flatI_at ps k hk j hj]; exact hu)
  rw [Addr.add_mid] at h1
  rw [Nat.zero_add] at h1
  exact h1
theorem InRow.nil {P : Nat → Prop} {B : Nat} {w : World} : InRow P B w (.slice none 0 0) [] := ⟨World.ownsRow_nil _ _ _ _, fun q hq => by simp [Value.ownBlock] at hq, fun p hp => by simp at hp⟩
theorem InRow.form {P : Nat → Prop} {B : Nat} {w : World} {v : Value} {ps : List (Inf × IHd)} (h : InRow P B w v ps) : ∃ a c, v = .slice a ps.length c := by
  obtain ⟨a, c, hv⟩ := row_slice h.row
  exact ⟨a, c, hv⟩

/-- What holds of the environment's infos. -/
def GoodM (M : List Ent) : Prop := ∀ p ∈ M, p.2.1.rules.length ≤ 20 ∧ (p.2.1.kind ≠ 2 → p.2.1.height = 0) ∧
  (p.2.1.kind = 2 → p.2.1.va.may = true ∧ (∀ k ∈ p.2.1.va.nms, (lookE M k).isSome = true) ∧ p.2.1.height = maxH M p.2.1.va.nms + 1)
theorem lookE_more {M N : List Ent} {k : List UInt8} (h : (lookE M k).isSome = true) : lookE (M ++ N) k = lookE M k := by
  unfold lookE at *
  rw [List.find?_append]
  cases hf : M.find? fun p => ekey p == k with
  | none => rw [hf] at h; cases h
  | some p => rfl
theorem lookE_last {M : List Ent} {q : Ent} (h : lookE M (ekey q) = none) : lookE (M ++ [q]) (ekey q) = some q := by
  unfold lookE at *
  rw [List.find?_append, h]
  simp
theorem lookE_nodup : ∀ {M : List Ent}, (M.map ekey).Nodup → ∀ k (h : k < M.length), lookE M (ekey M[k]) = some M[k]
  | [], _, k, h => by simp at h
  | p :: r, hn, 0, _ => by simp [lookE]
  | p :: r, hn, k + 1, h => by
    rw [List.map_cons, List.nodup_cons] at hn
    have hk : k < r.length := by simpa using h
    have h1 := lookE_nodup hn.2 k hk
    have hne : ¬ ekey p = ekey r[k] := fun e => hn.1 (e ▸ List.mem_map_of_mem (List.getElem_mem hk))
    unfold lookE at h1 ⊢
    rw [List.getElem_cons_succ, List.find?_cons_of_neg (by simpa using hne)]
    exact h1
theorem maxH_more {M N : List Ent} {l : List (List UInt8)} (h : ∀ k ∈ l, (lookE M k).isSome = true) : maxH (M ++ N) l = maxH M l := by
  have key : ∀ (l : List (List UInt8)) (a : Int), (∀ k ∈ l, (lookE M k).isSome = true) → l.foldl (fun h k => max h (hof (M ++ N) k)) a = l.foldl (fun h k => max h (hof M k)) a := by
    intro l
    induction l with
    | nil => intro a _; rfl
    | cons x r ih =>
      intro a hh
      rw [List.foldl_cons, List.foldl_cons]
      have e : hof (M ++ N) x = hof M x := by unfold hof; rw [lookE_more (hh x (by simp))]
      rw [e]
      exact ih _ (fun k hk => hh k (by simp [hk]))
  exact key l 0 h
theorem wrong_known {L : List Ent} {x : Inf} (h : wrongL L [x] = 0) (hk : x.kind = 2) : x.va.may = true ∧ ∀ k ∈ x.va.nms, (lookE L k).isSome = true := by
  have h0 := wrongL_all h 0 (by simp)
  have h1 := wrongI_zero h0
  refine ⟨h1.2.2.2.2 _ (by simp [Inf.terms, Inf.hv, hk]), fun k hkm => ?_⟩
  unfold wrongI at h0
  split at h0
  · simp at h0
  split at h0
  · simp at h0
  split at h0
  · simp at h0
  split at h0
  · simp at h0
  split at h0
  · simp at h0
  split at h0
  · simp at h0
  split at h0
  · simp at h0
  have h0' : wrongT L (names [x]) 0 x.params.toNat x = 0 := h0
  unfold wrongT at h0'
  split at h0'
  · have h2 := firstE_all h0'.symm x.va (by simp [Inf.terms, Inf.hv, hk])
    have h3 : x.va.nms.all (known L (names [x]) 0 x.hv) = true := by
      unfold unk at h2
      cases hq : x.va.nms.all (known L (names [x]) 0 x.hv)
      · rw [hq] at h2; simp at h2
      · rfl
    have h4 := List.all_eq_true.1 h3 k hkm
    have hv : x.hv = true := by simp [Inf.hv, hk]
    unfold known at h4
    rw [hv] at h4
    simpa using h4
  · rename_i h8; exact absurd h0' h8
theorem GoodM.snoc {M : List Ent} (h : GoodM M) {x : Inf} (hw : wrongL M [x] = 0) (hr : x.rules.length ≤ 20) (b : Nat) (hd : IHd) : GoodM (M ++ [(b, fixI M x, hd)]) := by
  intro p hp
  rcases List.mem_append.1 hp with hp | hp
  · obtain ⟨h1, h2, h3⟩ := h p hp
    refine ⟨h1, h2, fun hk => ?_⟩
    obtain ⟨h4, h5, h6⟩ := h3 hk
    exact ⟨h4, fun k hkm => by rw [lookE_more (h5 k hkm)]; exact h5 k hkm, by rw [maxH_more h5]; exact h6⟩
  · simp at hp
    subst hp
    refine ⟨hr, fun hk => ?_, fun hk => ?_⟩
    · have hk2 : x.kind ≠ 2 := hk
      simp [fixI, hk2]
    · have hk2 : x.kind = 2 := hk
      obtain ⟨h4, h5⟩ := wrong_known hw hk2
      have hv : x.hv = true := by simp [Inf.hv, hk2]
      have e : (fixI M x).va = x.va := by simp [fixI, hv]
      refine ⟨by rw [e]; exact h4, fun k hkm => ?_, ?_⟩
      · rw [e] at hkm
        rw [lookE_more (h5 k hkm)]; exact h5 k hkm
      · rw [e, maxH_more h5]
        simp [fixI, hk2]
theorem addA_wrong {M : List Ent} {x : Inf} (h : addA M [x] = 0) : wrongL M [x] = 0 ∧ lookE M (key x.name) = none := by
  have h1 : wrongL M [x] = 0 := by
    unfold addA at h
    split at h
    · simp at h
    · exact h
  exact ⟨h1, (wrongI_zero (wrongL_all h1 0 (by simp))).2.1⟩

/-- The world in the middle of EnvStays. -/
structure St (w0 W : World) (P : Nat → Prop) (e : Nat) (M : List Ent) (mo : Option Nat) (v vin : Value) (ps : List (Inf × IHd)) : Prop where
  env : EnvP P w0.heap.size W e M mo v
  base : ∀ q, P q → w0.heap.size ≤ q
  bel : Below w0.heap.size w0 W
  inr : InRow P w0.heap.size W vin ps
  apart : ∀ q, vin.ownBlock = some q → ¬ ownE e v mo q
  good : GoodM M
theorem St.below {w0 W W' : World} {P : Nat → Prop} {e : Nat} {M : List Ent} {mo : Option Nat} {v vin : Value} {ps : List (Inf × IHd)} (h : St w0 W P e M mo v vin ps) (b : Below W.heap.size W W') : St w0 W' P e M mo v vin ps :=
  ⟨h.env.below b, h.base, Trm.go h.bel b, ⟨row_same h.inr.row (fun q hq => b.block q (h.inr.row.lt q hq).2), h.inr.own, fun p hp => (h.inr.firm p hp).step (RanS.of_below b)⟩, h.apart, h.good⟩
theorem St.arg {w0 W : World} {P : Nat → Prop} {e : Nat} {M : List Ent} {mo : Option Nat} {v vin : Value} {ps : List (Inf × IHd)} (h : St w0 W P e M mo v vin ps) {x : Inf} {hd : IHd} (i : x.In w0.heap.size w0 hd) : FirmI P W x hd := FirmI.of (i.below h.bel) h.base h.bel.size
/-- What a step leaves behind Add of one info. -/
def StAdd (w0 : World) (e : Nat) (M : List Ent) (vin : Value) (ps : List (Inf × IHd)) (x : Inf) (y : Ending) (W' : World) : Prop :=
  y = .returned (.int .i64 (addA M [x])) ∧ ∃ M' mo' v' P', (addA M [x] = 0 → ∃ b hd, M' = M ++ [(b, fixI M x, hd)]) ∧ (addA M [x] ≠ 0 → M' = M) ∧ St w0 W' P' e M' mo' v' vin ps
theorem St.add {w0 W : World} {P : Nat → Prop} {e : Nat} {M : List Ent} {mo : Option Nat} {v vin : Value} {ps : List (Inf × IHd)} (h : St w0 W P e M mo v vin ps) {x : Inf} {hd : IHd} (i : x.In w0.heap.size w0 hd) (hr : x.rules.length ≤ 20) :
    Calls Tryz.prog 20 #[.pointer (some ⟨e, 0, none⟩), .slice (some ⟨W.heap.size, 0, none⟩) 1 1] (W.alloc (.cells (x.vals hd).toArray 46)) (StAdd w0 e M vin ps x) := by
  have hb : Below W.heap.size W (W.alloc (.cells (x.vals hd).toArray 46)) := below_one _ _
  have h2 := h.below hb
  refine (addP_any h2.env [x] (some ⟨W.heap.size, 0, none⟩) 1 (one_row (h.arg i) h.env.lt _) (by simp) (fun y hy => by simp at hy; subst hy; omega)).mono ?_
  rintro y W' ⟨hy, M', mo', v', P', hto, henv, hst, hran, hown, hsub⟩
  refine ⟨hy, M', mo', v', P', fun h0 => (hto.yes h0).one, fun h0 => hto.no h0, henv, fun q hq => ?_, ?_, ⟨row_same h2.inr.row (fun q hq => hran.block q (h2.inr.row.lt q hq).2 (h2.apart q hq)), fun q hq => hst.wide q (h2.inr.own q hq), fun p hp => hst.inf (h2.inr.firm p hp)⟩, fun q hq a => ?_, ?_⟩
  · have hs := h2.bel.size
    rcases hst.own q hq with a | a
    · exact h.base q a
    · omega
  · exact h2.bel.trans (hst.ran.below h2.base h2.bel.size)
  · rcases hown q a with b | b
    · exact h2.apart q hq b
    · have := (h2.inr.row.lt q hq).2; omega
  · by_cases h0 : addA M [x] = 0
    · obtain ⟨b, hd', rfl⟩ := (hto.yes h0).one
      exact h.good.snoc (addA_wrong h0).1 hr b hd'
    · rw [hto.no h0]; exact h.good
/-- .. and behind an append to the row. -/
theorem St.push {w0 W w1 : World} {P : Nat → Prop} {e : Nat} {M : List Ent} {mo : Option Nat} {v vin : Value} {ps : List (Inf × IHd)} (h : St w0 W P e M mo v vin ps) {x : Inf} {hd : IHd} (hf : FirmI P W x hd) {g cap n : Nat} (hn : n = ps.length)
    (hown : w1.ownsRow w0.heap.size 46 25 (.slice (some ⟨g, 0, none⟩) (n + 1) cap) (n + 1) (flatI ps ++ x.vals hd)) (hg : W.grownBy w1 vin.ownBlock) (hat : vin.ownBlock = some g ∨ g = W.heap.size) (hlt : g < w1.heap.size) :
    ∃ P', St w0 w1 P' e M mo v (.slice (some ⟨g, 0, none⟩) (n + 1) cap) (ps ++ [(x, hd)]) := by
  subst hn
  have hr : RanS (fun q => vin.ownBlock = some q) W w1 := ⟨hg.os, hg.tape, hg.output, hg.size, fun k hk hn => hg.block k hk (fun a => hn a.symm)⟩
  have hP : ∀ q, (P q ∨ q = g) → P q ∨ W.heap.size ≤ q := fun q hq => by
    rcases hq with a | a
    · exact Or.inl a
    · rcases hat with b | b
      · exact Or.inl (h.inr.own q (a ▸ b))
      · exact Or.inr (by omega)
  have hrP : RanS P W w1 := hr.wide (fun q a => h.inr.own q a)
  refine ⟨fun q => P q ∨ q = g, h.env.other hr (fun q a => h.inr.own q a) (fun q a b => h.apart q b a) hP (fun q a => Or.inl a) (fun q hq => ?_), fun q hq => ?_, h.bel.trans (hrP.below h.base h.bel.size), ⟨?_, fun q hq => ?_, fun p hp => ?_⟩, fun q hq a => ?_, h.good⟩
  · rcases hq with a | a
    · exact Nat.lt_of_lt_of_le (h.env.lt q a) hr.size
    · omega
  · rcases hP q hq with a | a
    · exact h.base q a
    · exact Nat.le_trans h.bel.size a
  · rw [List.length_append, List.length_singleton, flatI_snoc]; exact hown
  · injection hq with hq
    exact Or.inr hq.symm
  · rcases List.mem_append.1 hp with hp | hp
    · exact (h.inr.firm p hp).turn hrP hP
    · simp at hp
      subst hp
      exact hf.turn hrP hP
  · injection hq with hq
    have hq2 : g = q := hq
    subst hq2
    rcases hat with b | b
    · exact h.apart g b a
    · have := h.env.lt g (h.env.own g a); omega
theorem St.hold {w0 W : World} {P : Nat → Prop} {e : Nat} {M : List Ent} {mo : Option Nat} {v vin : Value} {ps : List (Inf × IHd)} (h : St w0 W P e M mo v vin ps) : ∀ p ∈ M, p.2.1.rules.length ≤ 1000 := fun p hp => by have := (h.good p hp).1; omega
end Env
end Go.Proofs.YtiekbhlnnmnklaaGreat


namespace Go.Proofs.YtiekbhlnnmnklaaGreat
open Go.RowKit Go.Shelf Go.Maps Lvl Trm Env

def Env.MadeX (w : World) (e : Ending) (w' : World) : Prop := ∃ g, e = .returned (tS.val ⟨some ⟨g, 0, none⟩, 1, none, 0⟩) ∧ w'.heap[g]? = some (.cells #[.int .i64 0, .int .i64 (-1), .int .i64 (-1), .int .i64 (-1), .int .i64 (-1)] 61) ∧ w.heap.size ≤ g ∧ Below w.heap.size w w'
set_option maxRecDepth 100000 in
set_option maxHeartbeats 1000000 in
theorem SX_any (w : World) : Calls Tryz.prog 22 #[] w (MadeX w) := by
  go_enter Tryz.func22, Tryz.ntmps22
  go_wp2_with fail
  refine (RefZero_any _).mono ?_
  rintro e w1 ⟨rfl, b1⟩
  have hk := Lvl.keep b1 (World.alloc_heap_new w _)
  have hz := b1.size
  simp only [World.size_alloc] at hz
  have HB := Lib.hid ((below_one w _).trans (b1.mono (B' := w.heap.size) (by simp)))
  clear b1
  have hlt : w.heap.size < w1.heap.size := by omega
  obtain ⟨c0, c1, c2, c3, c4⟩ := five_cells hk
  obtain ⟨f0, f1, f2, f3, f4⟩ := five_free hk
  have HK := Lib.hid hk
  clear hk
  dsimp only [Lv.val, number]
  go_wp2_with fail
  have h5 := putT_self HK.out (.int .u8 1) (.int .i64 0) (.string no) (.slice (some ⟨w1.heap.size, 0, none⟩) 1 1) (.slice none 0 0)
  have b5 := putT_below HB.out (B := w.heap.size) (Nat.le_refl _) (.int .u8 1) (.int .i64 0) (.string no) (.slice (some ⟨w1.heap.size, 0, none⟩) 1 1) (.slice none 0 0)
  have z5 := putT_size w1 w.heap.size (.int .u8 1) (.int .i64 0) (.string no) (.slice (some ⟨w1.heap.size, 0, none⟩) 1 1) (.slice none 0 0)
  unfold putT no at h5 b5 z5
  generalize hW : ((((w1.setCell ⟨w.heap.size, 0, none⟩ (.int .u8 1)).setCell ⟨w.heap.size, 1, none⟩ (.int .i64 0)).setCell ⟨w.heap.size, 2, none⟩ (.string ⟨#[]⟩)).setCell ⟨w.heap.size, 3, none⟩ (.slice (some ⟨w1.heap.size, 0, none⟩) 1 1)).setCell ⟨w.heap.size, 4, none⟩ (.slice none 0 0) = W4 at h5 b5 z5 ⊢
  have l5 := World.alloc_heap_new W4 (.cells #[.int .i64 0, .int .i64 (-1), .int .i64 (-1), .int .i64 (-1), .int .i64 (-1)] 61)
  rw [z5] at l5
  obtain ⟨e0, e1, e2, e3, e4⟩ := five_cells (keepA h5 (.cells #[.int .i64 0, .int .i64 (-1), .int .i64 (-1), .int .i64 (-1), .int .i64 (-1)] 61))
  clear hW
  exact bodyPost_ret (v := tS.val ⟨some ⟨w1.heap.size, 0, none⟩, 1, none, 0⟩) (by simp [results, Tryz.results22, go_sem, e0, e1, e2, e3, e4, tS, Tm.val, Tm.vals, Tm.k, Tm.n, Tm.s, Tm.ls, Tm.ts, no]) rfl ⟨w1.heap.size, rfl, l5, by omega, b5.alloc b5.size _⟩

namespace Env
/-- A row of two infos, in a block of its own. -/
theorem two_row {P : Nat → Prop} {W : World} {x y : Inf} {h g : IHd} (f : FirmI P W x h) (k : FirmI P W y g) (hP : ∀ q, P q → q < W.heap.size) (ty : TypeId) : InfFirm P (W.alloc (.cells ((x.vals h) ++ (y.vals g)).toArray ty)) (some ⟨W.heap.size, 0, none⟩) [x, y] := ⟨fun i hi => by
  have hn := World.alloc_heap_new W (.cells ((x.vals h) ++ (y.vals g)).toArray ty)
  have hcell : ∀ j, (W.alloc (.cells ((x.vals h) ++ (y.vals g)).toArray ty)).cell? ⟨W.heap.size, j, none⟩ = ((x.vals h) ++ (y.vals g))[j]? := fun j => by
    unfold World.cell?
    show (match (W.alloc (.cells ((x.vals h) ++ (y.vals g)).toArray ty)).heap[W.heap.size]? with | some (.cells c _ _) => c[j]? | _ => none) = _
    rw [hn]
    simp
  have hlt : W.heap.size < (W.alloc (.cells ((x.vals h) ++ (y.vals g)).toArray ty)).heap.size := by rw [World.size_alloc]; omega
  have hi2 : i = 0 ∨ i = 1 := by simp at hi; omega
  rcases hi2 with rfl | rfl
  · refine ⟨W.heap.size, 0, h, rfl, hlt, fun a => by have := hP _ a; omega, fun j v hv => ?_, f.step (RanS.of_below (below_one _ _))⟩
    have hv2 : (x.vals h)[j]? = some v := hv
    rw [show 0 + 0 * 25 + j = j by omega, hcell, List.getElem?_append_left (List.getElem?_eq_some_iff.1 hv2).1]
    exact hv2
  · refine ⟨W.heap.size, 0, g, rfl, hlt, fun a => by have := hP _ a; omega, fun j v hv => ?_, k.step (RanS.of_below (below_one _ _))⟩
    have hv2 : (y.vals g)[j]? = some v := hv
    rw [hcell, List.getElem?_append_right (by rw [Inf.len]; omega), Inf.len, show 0 + 1 * 25 + j - 25 = j by omega]
    exact hv2⟩
theorem WS.addTwo {w W : World} {P : Nat → Prop} {e : Nat} {L : List Ent} {mo : Option Nat} {v : Value} {x z : Inf} {hx hz : IHd} (h : WS w W P e L mo v) (f : FirmI P W x hx) (k : FirmI P W z hz) (hr : x.rules.length ≤ 1000) (hr2 : z.rules.length ≤ 1000) :
    Calls Tryz.prog 20 #[.pointer (some ⟨e, 0, none⟩), .slice (some ⟨W.heap.size, 0, none⟩) 2 2] (W.alloc (.cells ((x.vals hx) ++ (z.vals hz)).toArray 46)) fun y W' =>
      y = .returned (.int .i64 (addA L [x, z])) ∧ ∃ M mo' v' P', AddTo L [x, z] M ∧ WS w W' P' e M mo' v' ∧ Step P P' W W' := by
  have hb : Below W.heap.size W (W.alloc (.cells ((x.vals hx) ++ (z.vals hz)).toArray 46)) := below_one _ _
  have h2 := h.below hb
  refine (addP_any h2.env [x, z] (some ⟨W.heap.size, 0, none⟩) 2 (two_row f k h.env.lt _) (by simp) (fun y hy => by simp at hy; rcases hy with rfl | rfl; exact hr; exact hr2)).mono ?_
  intro y W' a
  obtain ⟨hy, M, mo', v', P', h3, h4, h5⟩ := h2.add a
  exact ⟨hy, M, mo', v', P', h3, h4, (Step.of_below hb).trans h5⟩
theorem FdPost.two {P : Nat → Prop} {L : List Ent} {k : List UInt8} {w w' : World} {y : Ending} (a : FdPost P L k w y w') : ∃ (z : Inf) (hz : IHd) (b : Bool), y = .returned (.tuple #[.agg (z.vals hz).toArray, .bool b]) ∧ Below w.heap.size w w' ∧ (b = true ↔ (lookE L k).isSome = true) ∧ FirmI P w' z hz := by
  obtain ⟨b, ⟨h0, h1⟩ | ⟨q, hd, h0, h2, h3⟩⟩ := a
  · exact ⟨zI, zIHd, false, h1, b, by rw [h0]; simp, zI_firm⟩
  · exact ⟨_, hd, true, h2, b, by rw [h0]; simp, h3⟩
end Env
end Go.Proofs.YtiekbhlnnmnklaaGreat


namespace Go.Proofs.YtiekbhlnnmnklaaGreat
open Go.RowKit Go.Shelf Lvl Trm Env

namespace Env
/-- Has a level no parameter but the first n? -/
def belL (n : Nat) (l : Lv) : Bool := l.ps.all fun x => decide (x.1 < (n : Int))
theorem par4 : parL 4 = own.list := by kernel_rfl
theorem par_get (n i : Nat) (h : i < (parL n).length) : (parL n)[i] = (param (i : Int)).1 := by simp [parL]
theorem par_may {n : Nat} (hn : n ≤ 4) : (parL n).all Lv.may = true := by
  rw [List.all_eq_true]
  intro x hx
  obtain ⟨i, hi, rfl⟩ := List.mem_iff_getElem.1 hx
  rw [par_get]
  rw [parL_len] at hi
  have h4 : i = 0 ∨ i = 1 ∨ i = 2 ∨ i = 3 := by omega
  rcases h4 with rfl | rfl | rfl | rfl
  · exact (by kernel_rfl : Lv.may (param ((0 : Nat) : Int)).1 = true)
  · exact (by kernel_rfl : Lv.may (param ((1 : Nat) : Int)).1 = true)
  · exact (by kernel_rfl : Lv.may (param ((2 : Nat) : Int)).1 = true)
  · exact (by kernel_rfl : Lv.may (param ((3 : Nat) : Int)).1 = true)
theorem step_par {n : Nat} (o : Option Lv) (x : Int × Int) (hx : x.1.toNat < n) (hn : n ≤ 4) : instStep (parL n) o x = instStep (parL 4) o x := by
  cases o with
  | none => rfl
  | some o =>
    unfold instStep
    simp only [parL_len]
    rw [dif_pos hx, dif_pos (by omega), par_get, par_get]
theorem fold_par {n : Nat} (hn : n ≤ 4) : ∀ (ps : List (Int × Int)) (o : Option Lv), (∀ x ∈ ps, x.1.toNat < n) → ps.foldl (instStep (parL n)) o = ps.foldl (instStep (parL 4)) o
  | [], _, _ => rfl
  | x :: r, o, h => by
    rw [List.foldl_cons, List.foldl_cons, step_par o x (h x (by simp)) hn]
    exact fold_par hn r _ (fun y hy => h y (by simp [hy]))
theorem fold_out {n : Nat} : ∀ (ps : List (Int × Int)) (o : Option Lv), (∃ x ∈ ps, n ≤ x.1.toNat) → ps.foldl (instStep (parL n)) o = none
  | [], _, h => by obtain ⟨x, hx, _⟩ := h; cases hx
  | x :: r, o, h => by
    rw [List.foldl_cons]
    by_cases hx : n ≤ x.1.toNat
    · have e : instStep (parL n) o x = none := by
        cases o with
        | none => rfl
        | some o =>
          unfold instStep
          simp only [parL_len]
          rw [dif_neg (by omega)]
      rw [e]
      exact instFold_none _ r
    · obtain ⟨y, hy, hny⟩ := h
      rcases List.mem_cons.1 hy with rfl | hy
      · exact absurd hny hx
      · exact fold_out r _ ⟨y, hy, hny⟩
theorem inst_par {l : Lv} (hl : l.may = true) {n : Nat} (hn : n ≤ 4) : inst l (parL n) = if belL n l = true then (l, 0) else (zero, 8) := by
  have ho := (may_iff l).1 hl
  have h0 : ∀ x ∈ l.ps, 0 ≤ x.1 := fun x hx => by
    obtain ⟨k, _, rfl, _⟩ := mem_ps_k hx
    simp
  by_cases hb : belL n l = true
  · rw [if_pos hb]
    have hall : ∀ x ∈ l.ps, x.1.toNat < n := fun x hx => by
      have h1 := List.all_eq_true.1 hb x hx
      have h2 := of_decide_eq_true h1
      have := h0 x hx
      omega
    have e4 := inst_own ho
    rw [← par4] at e4
    rw [inst, if_pos ⟨hl, par_may (by omega)⟩] at e4
    rw [inst, if_pos ⟨hl, par_may hn⟩]
    unfold instAll at e4 ⊢
    rw [fold_par hn _ _ hall]
    exact e4
  · rw [if_neg hb]
    have hex : ∃ x ∈ l.ps, n ≤ x.1.toNat := by
      refine Classical.byContradiction fun hc => hb (List.all_eq_true.2 fun x hx => decide_eq_true ?_)
      have h1 : ¬ n ≤ x.1.toNat := fun h => hc ⟨x, hx, h⟩
      have := h0 x hx
      omega
    rw [inst, if_pos ⟨hl, par_may hn⟩]
    unfold instAll
    rw [fold_out _ _ hex]
mutual
/-- Has a term no parameter but the first n? -/
def _root_.Go.Proofs.YtiekbhlnnmnklaaGreat.Trm.Tm.bel (n : Nat) : Tm → Bool
  | .mk _ _ _ ls ts => ls.all (belL n) && belT n ts
def belT (n : Nat) : List Tm → Bool
  | [] => true
  | t :: r => t.bel n && belT n r
end
theorem node_lv {t : Tm} (h : t.node = true) : ∀ l ∈ t.ls, l.may = true := by
  unfold Tm.node at h
  simp only [Bool.and_eq_true] at h
  exact List.all_eq_true.1 h.1.1.1.2
theorem errL_par {n : Nat} (hn : n ≤ 4) : ∀ ls : List Lv, (∀ l ∈ ls, l.may = true) → errL (parL n) ls = if ls.all (belL n) = true then 0 else 8
  | [], _ => rfl
  | l :: r, h => by
    rw [errL, inst_par (h l (by simp)) hn, errL_par hn r (fun x hx => h x (by simp [hx])), List.all_cons]
    cases belL n l <;> simp
mutual
theorem lerr_par {n : Nat} (hn : n ≤ 4) : ∀ (t : Tm) (d : Int), OkMay t d → t.lerr (parL n) = if t.bel n = true then 0 else 8
  | .mk k m s ls ts, d, ho => by
    rw [Tm.lerr, Tm.bel, errL_par hn ls (node_lv ho.node.1), lerrL_par hn ts (d + 1) (fun x hx => ho.down x hx)]
    cases ls.all (belL n) <;> simp
theorem lerrL_par {n : Nat} (hn : n ≤ 4) : ∀ (ts : List Tm) (d : Int), (∀ x ∈ ts, OkMay x d) → lerrL (parL n) ts = if belT n ts = true then 0 else 8
  | [], d, _ => rfl
  | t :: r, d, ho => by
    rw [lerrL, belT, lerr_par hn t d (ho t (by simp)), lerrL_par hn r d (fun x hx => ho x (by simp [hx]))]
    cases t.bel n <;> simp
end
theorem lmap_own {n : Nat} (hn : n ≤ 4) {ls : List Lv} (h : ∀ l ∈ ls, l.may = true) (hb : ls.all (belL n) = true) : ls.map (fL (parL n)) = ls := by
  rw [List.map_congr_left (g := id) (fun l hl => ?_), List.map_id]
  unfold fL
  rw [inst_par (h l hl) hn, if_pos (List.all_eq_true.1 hb l hl)]
  rfl
mutual
theorem lmap_par {n : Nat} (hn : n ≤ 4) : ∀ (t : Tm) (d : Int), OkMay t d → t.bel n = true → t.lmap (fL (parL n)) = t
  | .mk k m s ls ts, d, ho, hb => by
    rw [Tm.bel, Bool.and_eq_true] at hb
    rw [Tm.lmap, lmap_own (ls := ls) hn (node_lv ho.node.1) hb.1, lmapL_par hn ts (d + 1) (fun x hx => ho.down x hx) hb.2]
theorem lmapL_par {n : Nat} (hn : n ≤ 4) : ∀ (ts : List Tm) (d : Int), (∀ x ∈ ts, OkMay x d) → belT n ts = true → lmapL (fL (parL n)) ts = ts
  | [], d, _, _ => by rw [lmapL]
  | t :: r, d, ho, hb => by
    rw [belT, Bool.and_eq_true] at hb
    rw [lmapL, lmap_par hn t d (ho t (by simp)) hb.1, lmapL_par hn r d (fun x hx => ho x (by simp [hx])) hb.2]
end
mutual
theorem allL_lerr {L : List Lv} : ∀ t : Tm, t.lerr L = 0 → t.allL (okL L)
  | .mk k m s ls ts, h => by
    rw [Tm.lerr] at h
    rw [Tm.allL]
    by_cases he : errL L ls = 0
    · rw [if_pos he] at h
      exact ⟨allE he, allLL_lerr ts h⟩
    · rw [if_neg he] at h; exact absurd h he
theorem allLL_lerr {L : List Lv} : ∀ ts : List Tm, lerrL L ts = 0 → allLL (okL L) ts
  | [], _ => by rw [allLL]; trivial
  | t :: r, h => by
    rw [lerrL] at h
    rw [allLL]
    by_cases he : t.lerr L = 0
    · rw [if_pos he] at h
      exact ⟨allL_lerr t he, allLL_lerr r h⟩
    · rw [if_neg he] at h; exact absurd h he
theorem allE {L : List Lv} : ∀ {ls : List Lv}, errL L ls = 0 → ∀ l ∈ ls, okL L l
  | [], _, l, hl => by cases hl
  | x :: r, h, l, hl => by
    rw [errL] at h
    by_cases he : (inst x L).2 = 0
    · rw [if_pos he] at h
      rcases List.mem_cons.1 hl with rfl | hl
      · exact he
      · exact allE h l hl
    · rw [if_neg he] at h; exact absurd h he
end
/-- Levels at the parameters themselves. -/
theorem levels_par {t : Tm} (hm : t.may = true) {n : Nat} (hn : n ≤ 4) : levelsAns t (parL n) = if t.bel n = true then (t, 0) else (zeroT, 8) := by
  have hg : LGood (parL n) (parL n) := .inl rfl
  have he := thr_err (L := parL n) t (parL n) 1 0 (OkMay.start hm) hg
  have hl := lerr_par hn t 1 (OkMay.start hm)
  by_cases hb : t.bel n = true
  · rw [if_pos hb] at hl ⊢
    exact levels_is hm (allL_lerr t hl) (lmap_par hn t 1 (OkMay.start hm) hb) hm
  · rw [if_neg hb] at hl ⊢
    unfold levelsAns ansT
    rw [if_neg (by rw [hm]; simp), he, hl, if_pos (by decide)]
/-- Why a term is not closed over n levels. -/
def openB (t : Tm) (n : Nat) : Int := if t.may = true ∧ t.free ≤ 0 then (if t.bel n = true then 0 else 8) else 7
theorem openE_is (t : Tm) {n : Nat} (hn : n ≤ 4) : openE t n = openB t n := by
  unfold openE openB
  by_cases h : t.may = true ∧ t.free ≤ 0
  · rw [if_pos h, if_pos h, levels_par h.1 hn]
    split <;> rfl
  · rw [if_neg h, if_neg h]
def wrongTB (L : List Ent) (ks : List (List UInt8)) (i n : Nat) (x : Inf) : Int :=
  if firstE (fun t => openB t n) x.terms = 0 then firstE (fun t => unk (t.nms.all (known L ks i x.hv))) x.terms else firstE (fun t => openB t n) x.terms
theorem wrongT_is (L : List Ent) (ks : List (List UInt8)) (i : Nat) {n : Nat} (hn : n ≤ 4) (x : Inf) : wrongT L ks i n x = wrongTB L ks i n x := by
  unfold wrongT wrongTB
  rw [show (fun t => openE t n) = (fun t => openB t n) from funext fun t => openE_is t hn]
def wrongIB (L : List Ent) (ks : List (List UInt8)) (i : Nat) (x : Inf) : Int :=
  if nameOk x.name = false then 5 else if (lookE L (key x.name)).isSome = true then 5 else if ks.idxOf (key x.name) < i then 5
  else if x.isKind = false then 1 else if x.nums = false then 1 else if x.params < 0 then 8 else if 4 < x.params then 8 else wrongTB L ks i x.params.toNat x
theorem wrongI_is (L : List Ent) (ks : List (List UInt8)) (i : Nat) (x : Inf) : wrongI L ks i x = wrongIB L ks i x := by
  unfold wrongI wrongIB
  by_cases h : 4 < x.params
  · rw [if_pos h, if_pos h]
  · rw [if_neg h, if_neg h, wrongT_is L ks i (by omega)]
def wrongLB (L : List Ent) (l : List Inf) : Int := firstE (fun p : Inf × Nat => wrongIB L (names l) p.2 p.1) l.zipIdx
theorem wrongL_is (L : List Ent) (l : List Inf) : wrongL L l = wrongLB L l := by
  unfold wrongL wrongLB
  rw [show (fun p : Inf × Nat => wrongI L (names l) p.2 p.1) = (fun p : Inf × Nat => wrongIB L (names l) p.2 p.1) from funext fun p => wrongI_is _ _ _ _]
end Env
end Go.Proofs.YtiekbhlnnmnklaaGreat


namespace Go.Proofs.YtiekbhlnnmnklaaGreat
open Go.RowKit Go.Shelf Lvl Trm Env

namespace Env
def addB (L : List Ent) (l : List Inf) : Int := if 4096 < L.length + l.length then 4 else wrongLB L l
theorem addA_is (L : List Ent) (l : List Inf) : addA L l = addB L l := by unfold addA addB; rw [wrongL_is]
theorem tyAns_zero {L : List Ent} {t : Tm} {p : Ent} (h : ofO L t = some p) (hl : t.ls = []) (hm : p.2.1.ty.may = true) (hb : p.2.1.ty.bel 0 = true) : tyAns L t = (p.2.1.ty, 0) := by
  unfold tyAns
  rw [h, hl]
  have e := levels_par hm (n := 0) (by omega)
  rw [if_pos hb] at e
  exact e
end Env
end Go.Proofs.YtiekbhlnnmnklaaGreat


namespace Go.Proofs.YtiekbhlnnmnklaaGreat
open Go.RowKit Go.Shelf Go.Maps Lvl Trm Env

namespace Env
def L1 (b : Nat) (h : IHd) : List Ent := [(b, fixI [] (ax ⟨#[65]⟩ tS), h)]
def L2 (b : Nat) (h : IHd) (b2 : Nat) (h2 : IHd) : List Ent := L1 b h ++ [(b2, fixI (L1 b h) (df ⟨#[68]⟩ tS (tC ⟨#[65]⟩)), h2)]
theorem a1 : addA [] [(ax ⟨#[65]⟩ tS)] = 0 := (addA_is _ _).trans (by kernel_rfl)
theorem a2 (b : Nat) (h : IHd) : addA (L1 b h) [(ax ⟨#[65]⟩ tS)] = 5 := (addA_is _ _).trans (by kernel_rfl)
theorem a3 (b : Nat) (h : IHd) : addA (L1 b h) [(ax ⟨#[99]⟩ (tC ⟨#[66]⟩))] = 6 := (addA_is _ _).trans (by kernel_rfl)
theorem a4 (b : Nat) (h : IHd) : addA (L1 b h) [(df ⟨#[68]⟩ tS (tC ⟨#[65]⟩))] = 0 := (addA_is _ _).trans (by kernel_rfl)
theorem a5 (b : Nat) (h : IHd) (b2 : Nat) (h2 : IHd) : lookE (L2 b h b2 h2) (key ⟨#[68]⟩) = some (b2, fixI (L1 b h) (df ⟨#[68]⟩ tS (tC ⟨#[65]⟩)), h2) := by kernel_rfl
theorem a6 (b : Nat) (h : IHd) : (fixI (L1 b h) (df ⟨#[68]⟩ tS (tC ⟨#[65]⟩))).height = 1 := by kernel_rfl
theorem a7 (b : Nat) (h : IHd) (b2 : Nat) (h2 : IHd) : tyAns (L2 b h b2 h2) (tC ⟨#[65]⟩) = (tS, 0) := tyAns_zero (p := (b, fixI [] (ax ⟨#[65]⟩ tS), h)) (by kernel_rfl) rfl (by kernel_rfl) (by kernel_rfl)
theorem a8 (b : Nat) (h : IHd) (b2 : Nat) (h2 : IHd) : maxH (L2 b h b2 h2) (tC ⟨#[68]⟩).nms = 1 := by kernel_rfl
theorem a9 (b : Nat) (h : IHd) (b2 : Nat) (h2 : IHd) : ∀ p ∈ L2 b h b2 h2, p.2.1.rules.length ≤ 1000 := fun p hp => by
  simp [L2, L1] at hp
  rcases hp with rfl | rfl <;> (show (0 : Nat) ≤ 1000; omega)
end Env
set_option maxRecDepth 100000 in
set_option maxHeartbeats 8000000 in
theorem works7_any (w : World) : Calls Tryz.prog 16 #[] w fun e w' => e = .returned (.bool true) ∧ Below w.heap.size w w' := by
  have HKR : ∀ {x : Inf} {h : IHd}, Hid ((Tryz.prog.info? 46).map (·.size) = some (x.vals h).toArray.size) := fun {x h} => Lib.hid infoInf
  have HKZ : Hid (∀ (x : Inf) (h : IHd), Inf.zeros.size = (x.vals h).toArray.size) := Lib.hid (fun _ _ => rfl)
  have HKO : Hid (∀ (x : Inf) (h : IHd), (x.vals h).toArray.all (·.oneCell') = true) := Lib.hid (fun x h => vals_one x h)
  go_enter Tryz.func16, Tryz.ntmps16
  go_wp2_with fail
  refine (envNew_any _).mono ?_
  rintro y w1 ⟨rfl, hw1⟩
  obtain ⟨e, P1, H1⟩ : ∃ (e : Nat) (P1 : Nat → Prop), Hid (e = w.heap.size ∧ WS w w1 P1 e [] none (.slice none 0 0)) := ⟨w.heap.size, _, Lib.hid ⟨rfl, hw1 ▸ WS.new (Below.refl _ _)⟩⟩
  rw [← H1.out.1]
  replace H1 := Lib.hid H1.out.2
  clear hw1
  go_wp2_with fail
  refine (SE_any _).mono ?_
  rintro y w2 ⟨hS, rfl, b2, f2⟩
  have H2 := Lib.hid (H1.out.below b2)
  have FA := Lib.hid (ax_firm (s := ⟨#[65]⟩) (by decide) (f2 P1 H1.out.env.lt))
  obtain ⟨hA, hhA⟩ : ∃ hA : IHd, hA = { zIHd with ty := hS } := ⟨_, rfl⟩
  clear b2 f2 H1
  go_upto_region 3 with (first
    | (refine wpList_buildTo rfl 46 _ rfl (some 13) rfl ((ax ⟨#[65]⟩ tS).vals { zIHd with ty := hS }).toArray (by kernel_rfl) ?_)
    | (refine wpList_store_row rfl 46 (.tmp 2) (.tmp 13) rfl w2.heap.size _ rfl rfl 46 Inf.zeros (World.alloc_heap_new w2 _) HKR.out (HKZ.out _ _) (HKO.out _ _) ?_))
  rw [World.setRow_alloc_new]
  rw [← hhA] at FA ⊢
  obtain ⟨W2, hW2⟩ : ∃ W2, W2 = w2.alloc (.cells ((ax ⟨#[65]⟩ tS).vals hA).toArray 46) := ⟨_, rfl⟩
  obtain ⟨bA, hbA⟩ : ∃ bA, bA = w2.heap.size := ⟨_, rfl⟩
  have HA2 := Lib.hid (show HoldI P1 W2 bA (ax ⟨#[65]⟩ tS) hA from by rw [hW2, hbA]; exact HoldI.new FA.out H2.out.env.lt)
  have H2b := Lib.hid (H2.out.below (show Below w2.heap.size w2 W2 from hW2 ▸ below_one _ _))
  rw [← hW2, ← hbA]
  clear hW2 hbA hhA H2 FA
  have hrow := HA2.out.1
  go_wp2_with (first
    | (refine wpList_load_row rfl 46 (.tmp 2) rfl bA rfl 46 _ (0, 0) _ hrow Tryz.underlying46 rfl HKR.out ?_)
    | (refine Go.Great.wpList_buildSliceTo rfl 22 46 1 _ rfl W2.heap.size rfl (some 16) rfl Tryz.underlying22 ((ax ⟨#[65]⟩ tS).vals hA).toArray (by kernel_rfl) ?_))
  clear hrow
  refine (H2b.out.addOne HA2.out.2.2 (by decide)).mono ?_
  rintro y w3 ⟨rfl, M, mo3, v3, P3, hto, hws, hst⟩
  obtain ⟨bE, hE, hM⟩ := (hto.yes a1).one
  have hM2 : M = L1 bE hE := hM
  subst hM2
  have H3 := Lib.hid hws
  have HA3 := Lib.hid (HA2.out.step hst)
  rw [a1]
  clear hM hto hws hst H2b HA2
  have hrow := HA3.out.1
  go_wp2_with (first
    | (refine wpList_load_row rfl 46 (.tmp 2) rfl bA rfl 46 _ (0, 0) _ hrow Tryz.underlying46 rfl HKR.out ?_)
    | (refine Go.Great.wpList_buildSliceTo rfl 22 46 1 _ rfl w3.heap.size rfl (some 20) rfl Tryz.underlying22 ((ax ⟨#[65]⟩ tS).vals hA).toArray (by kernel_rfl) ?_))
  clear hrow
  refine (H3.out.addOne HA3.out.2.2 (by decide)).mono ?_
  rintro y w4 ⟨rfl, M, mo4, v4, P4, hto, hws, hst⟩
  have hM2 : M = L1 bE hE := hto.no (by rw [a2]; decide)
  subst hM2
  have H4 := Lib.hid hws
  rw [a2]
  clear hto hws hst H3 HA3
  go_wp2_with fail
  refine (CE_any _ _).mono ?_
  rintro y w5 ⟨rfl, b5⟩
  have H5 := Lib.hid (H4.out.below b5)
  clear b5 H4
  go_wp2_with (first
    | (refine wpList_buildTo rfl 46 _ rfl (some 24) rfl ((ax ⟨#[99]⟩ (tC ⟨#[66]⟩)).vals zIHd).toArray (by kernel_rfl) ?_)
    | (refine Go.Great.wpList_buildSliceTo rfl 22 46 1 _ rfl w5.heap.size rfl (some 25) rfl Tryz.underlying22 ((ax ⟨#[99]⟩ (tC ⟨#[66]⟩)).vals zIHd).toArray (by kernel_rfl) ?_))
  refine (H5.out.addOne (ax_firm (by decide) (C_firm _ (by decide))) (by decide)).mono ?_
  rintro y w6 ⟨rfl, M, mo6, v6, P6, hto, hws, hst⟩
  have hM2 : M = L1 bE hE := hto.no (by rw [a3]; decide)
  subst hM2
  have H6 := Lib.hid hws
  rw [a3]
  clear hto hws hst H5
  go_wp2_with fail
  refine (SE_any _).mono ?_
  rintro y w7 ⟨hS7, rfl, b7, f7⟩
  have H7 := Lib.hid (H6.out.below b7)
  have F7 := Lib.hid (f7 P6 H6.out.env.lt)
  clear b7 f7 H6
  go_wp2_with fail
  refine (CE_any _ _).mono ?_
  rintro y w8 ⟨rfl, b8⟩
  have H8 := Lib.hid (H7.out.below b8)
  have F8 := Lib.hid (df_firm (s := ⟨#[68]⟩) (by decide) (F7.out.step (RanS.of_below b8)) (C_firm (P := P6) (w := w8) ⟨#[65]⟩ (by decide)))
  clear b8 H7 F7
  go_wp2_with (first
    | (refine wpList_buildTo rfl 46 _ rfl (some 30) rfl ((df ⟨#[68]⟩ tS (tC ⟨#[65]⟩)).vals { zIHd with ty := hS7, va := zHd }).toArray (by kernel_rfl) ?_)
    | (refine Go.Great.wpList_buildSliceTo rfl 22 46 1 _ rfl w8.heap.size rfl (some 31) rfl Tryz.underlying22 ((df ⟨#[68]⟩ tS (tC ⟨#[65]⟩)).vals { zIHd with ty := hS7, va := zHd }).toArray (by kernel_rfl) ?_))
  refine (H8.out.addOne F8.out (by decide)).mono ?_
  rintro y w9 ⟨rfl, M, mo9, v9, P9, hto, hws, hst⟩
  obtain ⟨bD, hD, hM⟩ := (hto.yes (a4 _ _)).one
  have hM2 : M = L2 bE hE bD hD := hM
  subst hM2
  have H9 := Lib.hid hws
  rw [a4]
  clear hM hto hws hst H8 F8
  go_wp2_with fail
  refine (findP_any H9.out.env _ (by decide) (a9 _ _ _ _)).mono ?_
  intro y w10 hfd
  obtain ⟨hF, rfl, _, b10⟩ := hfd.yes (a5 _ _ _ _)
  have H10 := Lib.hid (H9.out.below b10)
  clear b10 hfd H9
  go_upto_region 8 with (refine wpList_store_row rfl 46 (.tmp 7) (.tmp 36) rfl w10.heap.size _ rfl rfl 46 Inf.zeros (World.alloc_heap_new w10 _) HKR.out (HKZ.out _ _) (HKO.out _ _) ?_)
  rw [World.setRow_alloc_new]
  obtain ⟨W10, hW10⟩ : ∃ W, W = w10.alloc (.cells ((fixI (L1 bE hE) (df ⟨#[68]⟩ tS (tC ⟨#[65]⟩))).vals hF).toArray 46) := ⟨_, rfl⟩
  have HX10 := Lib.hid (show IBox W10 w10.heap.size (fixI (L1 bE hE) (df ⟨#[68]⟩ tS (tC ⟨#[65]⟩))) hF from hW10 ▸ World.alloc_heap_new _ _)
  have H10b := Lib.hid (H10.out.below (show Below w10.heap.size w10 W10 from hW10 ▸ below_one _ _))
  obtain ⟨bX, hbX⟩ : ∃ b, b = w10.heap.size := ⟨_, rfl⟩
  have hs10 : bX < W10.heap.size := by rw [hbX, hW10, World.size_alloc]; omega
  rw [← hbX] at HX10
  rw [← hW10, ← hbX]
  clear hW10 hbX H10
  go_wp2_with fail
  refine (CE_any _ _).mono ?_
  rintro y w11 ⟨rfl, b11⟩
  have H11 := Lib.hid (H10b.out.below b11)
  have HX11 := Lib.hid (HX10.out.keep b11)
  clear b11 H10b HX10
  go_wp2_with fail
  refine (type_any H11.out.env.env (tC ⟨#[65]⟩) zHd (C_firm (P := fun _ => False) ⟨#[65]⟩ (by decide)).here (by decide) (by decide)).mono ?_
  rintro y w12 hty
  rw [a7] at hty
  obtain ⟨hT, rfl, i12, b12⟩ := hty
  have H12 := Lib.hid (H11.out.below b12)
  have HX12 := Lib.hid (HX11.out.keep b12)
  have I12 := Lib.hid i12
  clear b12 i12 H11 HX11
  dsimp only
  have HKT : Hid ((Tryz.prog.info? 27).map (·.size) = some (tS.vals hT).size) := Lib.hid (by kernel_rfl)
  unfold Tm.val
  go_upto_region 9 with (refine wpList_store_row rfl 27 (.tmp 9) (.tmp 42) rfl w12.heap.size (tS.vals hT) rfl rfl 27 _ (World.alloc_heap_new w12 _) HKT.out rfl (by kernel_rfl) ?_)
  rw [World.setRow_alloc_new]
  obtain ⟨W, hW⟩ : ∃ W, W = w12.alloc (tS.box hT) := ⟨_, rfl⟩
  have HT12 := Lib.hid (show W.heap[w12.heap.size]? = some (tS.box hT) from hW ▸ World.alloc_heap_new _ _)
  have HBW := Lib.hid (show Below w12.heap.size w12 W from hW ▸ below_one _ _)
  obtain ⟨bT, hbT⟩ : ∃ b, b = w12.heap.size := ⟨_, rfl⟩
  have H13 := Lib.hid (H12.out.below HBW.out)
  have HX13 := Lib.hid (HX12.out.keep HBW.out)
  have I13 := Lib.hid (carry I12.out HBW.out)
  rw [← hbT] at HT12
  have hWe : w12.alloc (.cells (tS.vals hT) 27) = W := hW.symm
  rw [hWe, ← hbT]
  clear hW hWe hbT HBW H12 HX12 I12 HKT
  have HCELL := Lib.hid (fun (V : World) (hV : Below W.heap.size W V) => (⟨by rw [← a6 bE hE]; exact (HX13.out.keep hV).cell 13, by obtain ⟨q0, q1, q2, q3, q4⟩ := Tm.cells (Lvl.keep hV HT12.out); exact ⟨q0, q1, q2, q3, q4⟩⟩ : V.cell? ⟨bX, 13, none⟩ = some (.int .i64 1) ∧ (V.cell? ⟨bT, 0, none⟩ = some (.int .u8 tS.k) ∧ V.cell? ⟨bT, 1, none⟩ = some (.int .i64 tS.n) ∧ V.cell? ⟨bT, 2, none⟩ = some (.string tS.s) ∧ V.cell? ⟨bT, 3, none⟩ = some (.slice hT.lo tS.ls.length hT.lc) ∧ V.cell? ⟨bT, 4, none⟩ = some (.slice hT.to tS.ts.length hT.tc))))
  have HB0 : Hid (Below W.heap.size W W.drew) := Lib.hid (Below.refl _ _).drew
  refine wp_region_held_drew (S := fun w' => w'.cell? ⟨bX, 13, none⟩ = some (.int .i64 1) ∧ (w'.cell? ⟨bT, 0, none⟩ = some (.int .u8 tS.k) ∧ w'.cell? ⟨bT, 1, none⟩ = some (.int .i64 tS.n) ∧ w'.cell? ⟨bT, 2, none⟩ = some (.string tS.s) ∧ w'.cell? ⟨bT, 3, none⟩ = some (.slice hT.lo tS.ls.length hT.lc) ∧ w'.cell? ⟨bT, 4, none⟩ = some (.slice hT.to tS.ts.length hT.tc))) (by kernel_rfl) (HCELL.out _ HB0.out) (fun hHeld => ?_)
  refine wpAnyH_take (i := 0) (v := ?vwk0) rfl (by kernel_rfl) (by kernel_rfl) (by kernel_rfl) (fun _ _ _ h => h) (Or.inl ⟨by rfl, ?hywk0⟩) (by assumption) ?restwk0
  case hywk0 => (intro w hSw; (try dsimp only at hSw); go_simp <;> with_reducible rfl)
  try simp only [List.getElem_toArray, List.getElem_cons_zero, Act.put, List.setIfInBounds_toArray, List.set_cons_zero, List.set_cons_succ]
  refine wpAnyH_take (i := 1) (v := ?vwk1) rfl (by kernel_rfl) (by kernel_rfl) (by kernel_rfl) (fun _ _ _ h => h) (Or.inl ⟨by rfl, ?hywk1⟩) (by assumption) ?restwk1
  case hywk1 => (intro w hSw; (try dsimp only at hSw); go_simp <;> with_reducible rfl)
  try simp only [List.getElem_toArray, List.getElem_cons_succ, List.getElem_cons_zero, Act.put, List.setIfInBounds_toArray, List.set_cons_zero, List.set_cons_succ]
  refine wpAnyH_take (i := 2) (v := ?vwk2) rfl (by kernel_rfl) (by kernel_rfl) (by kernel_rfl) (fun _ _ _ h => h) (Or.inl ⟨by rfl, ?hywk2⟩) (by assumption) ?restwk2
  case hywk2 => (intro w hSw; (try dsimp only at hSw); go_simp <;> with_reducible rfl)
  try simp only [List.getElem_toArray, List.getElem_cons_succ, List.getElem_cons_zero, Act.put, List.setIfInBounds_toArray, List.set_cons_zero, List.set_cons_succ]
  refine wpAnyH_take (i := 3) (v := ?vwk3) rfl (by kernel_rfl) (by kernel_rfl) (by kernel_rfl) (fun _ _ _ h => h) (Or.inl ⟨by rfl, ?hywk3⟩) (by assumption) ?restwk3
  case hywk3 => (intro w hSw; (try dsimp only at hSw); go_simp <;> with_reducible rfl)
  try simp only [List.getElem_toArray, List.getElem_cons_succ, List.getElem_cons_zero, Act.put, List.setIfInBounds_toArray, List.set_cons_zero, List.set_cons_succ]
  refine wpAnyH_take (i := 4) (v := ?vwk4) rfl (by kernel_rfl) (by kernel_rfl) (by kernel_rfl) (fun _ _ _ h => h) (Or.inl ⟨by rfl, ?hywk4⟩) (by assumption) ?restwk4
  case hywk4 => (intro w hSw; (try dsimp only at hSw); go_simp <;> with_reducible rfl)
  try simp only [List.getElem_toArray, List.getElem_cons_succ, List.getElem_cons_zero, Act.put, List.setIfInBounds_toArray, List.set_cons_zero, List.set_cons_succ]
  refine wpAnyH_take (i := 5) (v := ?vwk5) rfl (by kernel_rfl) (by kernel_rfl) (by kernel_rfl) (fun _ _ _ h => h) (Or.inl ⟨by rfl, ?hywk5⟩) (by assumption) ?restwk5
  case hywk5 => (intro w hSw; (try dsimp only at hSw); go_simp <;> with_reducible rfl)
  try simp only [List.getElem_toArray, List.getElem_cons_succ, List.getElem_cons_zero, Act.put, List.setIfInBounds_toArray, List.set_cons_zero, List.set_cons_succ]
  refine wpAnyH_take (i := 6) (v := ?vwk6) rfl (by kernel_rfl) (by kernel_rfl) (by kernel_rfl) (fun _ _ _ h => h) (Or.inl ⟨by rfl, ?hywk6⟩) (by assumption) ?restwk6
  case hywk6 => (intro w hSw; (try dsimp only at hSw); go_simp <;> with_reducible rfl)
  try simp only [List.getElem_toArray, List.getElem_cons_succ, List.getElem_cons_zero, Act.put, List.setIfInBounds_toArray, List.set_cons_zero, List.set_cons_succ]
  refine wpAnyH_take (i := 7) (v := ?vwk7) rfl (by kernel_rfl) (by kernel_rfl) (by kernel_rfl) (fun _ _ _ h => h) (Or.inl ⟨by rfl, ?hywk7⟩) (by assumption) ?restwk7
  case hywk7 => (intro w hSw; (try dsimp only at hSw); go_simp <;> with_reducible rfl)
  try simp only [List.getElem_toArray, List.getElem_cons_succ, List.getElem_cons_zero, Act.put, List.setIfInBounds_toArray, List.set_cons_zero, List.set_cons_succ]
  refine wpAnyH_take (i := 8) (v := ?vwk8) rfl (by kernel_rfl) (by kernel_rfl) (by kernel_rfl) (fun _ _ _ h => h) (Or.inl ⟨by rfl, ?hywk8⟩) (by assumption) ?restwk8
  case hywk8 => (intro w hSw; (try dsimp only at hSw); go_simp <;> with_reducible rfl)
  try simp only [List.getElem_toArray, List.getElem_cons_succ, List.getElem_cons_zero, Act.put, List.setIfInBounds_toArray, List.set_cons_zero, List.set_cons_succ]
  refine wpAnyH_take (i := 9) (v := ?vwk9) rfl (by kernel_rfl) (by kernel_rfl) (by kernel_rfl) (fun _ _ _ h => h) (Or.inl ⟨by rfl, ?hywk9⟩) (by assumption) ?restwk9
  case hywk9 => (intro w hSw; (try dsimp only at hSw); go_simp <;> with_reducible rfl)
  try simp only [List.getElem_toArray, List.getElem_cons_succ, List.getElem_cons_zero, Act.put, List.setIfInBounds_toArray, List.set_cons_zero, List.set_cons_succ]
  refine wpAnyH_take (i := 10) (v := ?vwk10) rfl (by kernel_rfl) (by kernel_rfl) (by kernel_rfl) (fun _ _ _ h => h) (Or.inl ⟨by rfl, ?hywk10⟩) (by assumption) ?restwk10
  case hywk10 => (intro w hSw; (try dsimp only at hSw); go_simp <;> with_reducible rfl)
  try simp only [List.getElem_toArray, List.getElem_cons_succ, List.getElem_cons_zero, Act.put, List.setIfInBounds_toArray, List.set_cons_zero, List.set_cons_succ]
  refine wpAnyH_take (i := 11) (v := ?vwk11) rfl (by kernel_rfl) (by kernel_rfl) (by kernel_rfl) (fun _ _ _ h => h) (Or.inl ⟨by rfl, ?hywk11⟩) (by assumption) ?restwk11
  case hywk11 => (intro w hSw; (try dsimp only at hSw); go_simp <;> with_reducible rfl)
  try simp only [List.getElem_toArray, List.getElem_cons_succ, List.getElem_cons_zero, Act.put, List.setIfInBounds_toArray, List.set_cons_zero, List.set_cons_succ]
  refine wpAnyH_take (i := 12) (v := ?vwk12) rfl (by kernel_rfl) (by kernel_rfl) (by kernel_rfl) (fun _ _ _ h => h) (Or.inl ⟨by rfl, ?hywk12⟩) (by assumption) ?restwk12
  case hywk12 => (intro w hSw; (try dsimp only at hSw); go_simp <;> with_reducible rfl)
  try simp only [List.getElem_toArray, List.getElem_cons_succ, List.getElem_cons_zero, Act.put, List.setIfInBounds_toArray, List.set_cons_zero, List.set_cons_succ]
  refine wpAnyH_take (i := 13) (v := ?vwk13) rfl (by kernel_rfl) (by kernel_rfl) (by kernel_rfl) (fun _ _ _ h => h) (Or.inl ⟨by rfl, ?hywk13⟩) (by assumption) ?restwk13
  case hywk13 => (intro w hSw; (try dsimp only at hSw); go_simp <;> with_reducible rfl)
  try simp only [List.getElem_toArray, List.getElem_cons_succ, List.getElem_cons_zero, Act.put, List.setIfInBounds_toArray, List.set_cons_zero, List.set_cons_succ]
  refine wpAnyH_take (i := 14) (v := ?vwk14) rfl (by kernel_rfl) (by kernel_rfl) (by kernel_rfl) (fun _ _ _ h => h) (Or.inl ⟨by rfl, ?hywk14⟩) (by assumption) ?restwk14
  case hywk14 => (intro w hSw; (try dsimp only at hSw); go_simp <;> with_reducible rfl)
  try simp only [List.getElem_toArray, List.getElem_cons_succ, List.getElem_cons_zero, Act.put, List.setIfInBounds_toArray, List.set_cons_zero, List.set_cons_succ]
  refine wpAnyH_take (i := 15) (v := ?vwk15) rfl (by kernel_rfl) (by kernel_rfl) (by kernel_rfl) (fun _ _ _ h => h) (Or.inl ⟨by rfl, ?hywk15⟩) (by assumption) ?restwk15
  case hywk15 => (intro w hSw; (try dsimp only at hSw); go_simp <;> with_reducible rfl)
  try simp only [List.getElem_toArray, List.getElem_cons_succ, List.getElem_cons_zero, Act.put, List.setIfInBounds_toArray, List.set_cons_zero, List.set_cons_succ]
  refine wpAnyH_take (i := 16) (v := ?vwk16) rfl (by kernel_rfl) (by kernel_rfl) (by kernel_rfl) (fun _ _ _ h => h) (Or.inl ⟨by rfl, ?hywk16⟩) (by assumption) ?restwk16
  case hywk16 => (intro w hSw; (try dsimp only at hSw); go_simp <;> with_reducible rfl)
  try simp only [List.getElem_toArray, List.getElem_cons_succ, List.getElem_cons_zero, Act.put, List.setIfInBounds_toArray, List.set_cons_zero, List.set_cons_succ]
  refine wpAnyH_take (i := 17) (v := ?vwk17) rfl (by kernel_rfl) (by kernel_rfl) (by kernel_rfl) (fun _ _ _ h => h) (Or.inl ⟨by rfl, ?hywk17⟩) (by assumption) ?restwk17
  case hywk17 => (intro w hSw; (try dsimp only at hSw); go_simp <;> with_reducible rfl)
  try simp only [List.getElem_toArray, List.getElem_cons_succ, List.getElem_cons_zero, Act.put, List.setIfInBounds_toArray, List.set_cons_zero, List.set_cons_succ]
  refine wpAnyH_take (i := 18) (v := ?vwk18) rfl (by kernel_rfl) (by kernel_rfl) (by kernel_rfl) (fun _ _ _ h => h) (Or.inl ⟨by rfl, ?hywk18⟩) (by assumption) ?restwk18
  case hywk18 => (intro w hSw; (try dsimp only at hSw); go_simp <;> with_reducible rfl)
  try simp only [List.getElem_toArray, List.getElem_cons_succ, List.getElem_cons_zero, Act.put, List.setIfInBounds_toArray, List.set_cons_zero, List.set_cons_succ]
  refine wpAnyH_take (i := 19) (v := ?vwk19) rfl (by kernel_rfl) (by kernel_rfl) (by kernel_rfl) (fun _ _ _ h => h) (Or.inl ⟨by rfl, ?hywk19⟩) (by assumption) ?restwk19
  case hywk19 => (intro w hSw; (try dsimp only at hSw); go_simp <;> with_reducible rfl)
  try simp only [List.getElem_toArray, List.getElem_cons_succ, List.getElem_cons_zero, Act.put, List.setIfInBounds_toArray, List.set_cons_zero, List.set_cons_succ]
  refine wpAnyH_take (i := 20) (v := ?vwk20) rfl (by kernel_rfl) (by kernel_rfl) (by kernel_rfl) (fun _ _ _ h => h) (Or.inl ⟨by rfl, ?hywk20⟩) (by assumption) ?restwk20
  case hywk20 => (intro w hSw; (try dsimp only at hSw); go_simp <;> with_reducible rfl)
  try simp only [List.getElem_toArray, List.getElem_cons_succ, List.getElem_cons_zero, Act.put, List.setIfInBounds_toArray, List.set_cons_zero, List.set_cons_succ]
  refine wpAnyH_take (i := 21) (v := ?vwk21) rfl (by kernel_rfl) (by kernel_rfl) (by kernel_rfl) (fun _ _ _ h => h) (Or.inl ⟨by rfl, ?hywk21⟩) (by assumption) ?restwk21
  case hywk21 => (intro w hSw; (try dsimp only at hSw); go_simp <;> with_reducible rfl)
  try simp only [List.getElem_toArray, List.getElem_cons_succ, List.getElem_cons_zero, Act.put, List.setIfInBounds_toArray, List.set_cons_zero, List.set_cons_succ]
  refine wpAnyH_take (i := 22) (v := ?vwk22) rfl (by kernel_rfl) (by kernel_rfl) (by kernel_rfl) (fun _ _ _ h => h) (Or.inl ⟨by rfl, ?hywk22⟩) (by assumption) ?restwk22
  case hywk22 => (intro w hSw; (try dsimp only at hSw); go_simp <;> with_reducible rfl)
  try simp only [List.getElem_toArray, List.getElem_cons_succ, List.getElem_cons_zero, Act.put, List.setIfInBounds_toArray, List.set_cons_zero, List.set_cons_succ]
  refine wpAnyH_take (i := 23) (v := ?vwk23) rfl (by kernel_rfl) (by kernel_rfl) (by kernel_rfl) (fun _ _ _ h => h) (Or.inl ⟨by rfl, ?hywk23⟩) (by assumption) ?restwk23
  case hywk23 => (intro w hSw; (try dsimp only at hSw); go_simp <;> with_reducible rfl)
  try simp only [List.getElem_toArray, List.getElem_cons_succ, List.getElem_cons_zero, Act.put, List.setIfInBounds_toArray, List.set_cons_zero, List.set_cons_succ]
  refine wpAnyH_take (i := 24) (v := ?vwk24) rfl (by kernel_rfl) (by kernel_rfl) (by kernel_rfl) (fun _ _ _ h => h) (Or.inl ⟨by rfl, ?hywk24⟩) (by assumption) ?restwk24
  case hywk24 => (intro w hSw; (try dsimp only at hSw); go_simp <;> with_reducible rfl)
  try simp only [List.getElem_toArray, List.getElem_cons_succ, List.getElem_cons_zero, Act.put, List.setIfInBounds_toArray, List.set_cons_zero, List.set_cons_succ]
  refine wpAnyH_take (i := 25) (v := ?vwk25) rfl (by kernel_rfl) (by kernel_rfl) (by kernel_rfl) (fun _ _ _ h => h) (Or.inl ⟨by rfl, ?hywk25⟩) (by assumption) ?restwk25
  case hywk25 => (intro w hSw; (try dsimp only at hSw); go_simp <;> with_reducible rfl)
  try simp only [List.getElem_toArray, List.getElem_cons_succ, List.getElem_cons_zero, Act.put, List.setIfInBounds_toArray, List.set_cons_zero, List.set_cons_succ]
  refine wpAnyH_take (i := 26) (v := ?vwk26) rfl (by kernel_rfl) (by kernel_rfl) (by kernel_rfl) (fun _ _ _ h => h) (Or.inl ⟨by rfl, ?hywk26⟩) (by assumption) ?restwk26
  case hywk26 => (intro w hSw; (try dsimp only at hSw); go_simp <;> with_reducible rfl)
  try simp only [List.getElem_toArray, List.getElem_cons_succ, List.getElem_cons_zero, Act.put, List.setIfInBounds_toArray, List.set_cons_zero, List.set_cons_succ]
  refine wpAnyH_take (i := 27) (v := ?vwk27) rfl (by kernel_rfl) (by kernel_rfl) (by kernel_rfl) (fun _ _ _ h => h) (Or.inl ⟨by rfl, ?hywk27⟩) (by assumption) ?restwk27
  case hywk27 => (intro w hSw; (try dsimp only at hSw); go_simp <;> with_reducible rfl)
  try simp only [List.getElem_toArray, List.getElem_cons_succ, List.getElem_cons_zero, Act.put, List.setIfInBounds_toArray, List.set_cons_zero, List.set_cons_succ]
  refine wpAnyH_ready (rs := [28]) (by kernel_rfl) (by simp) ?_
  refine AllReadyH.cons rfl (fun K hK => ?_) AllReadyH.nil
  go_simp
  refine (SE_any _).mono ?_
  rintro y v1 ⟨g1, rfl, c1, f1⟩
  have HB1 := Lib.hid (Trm.go HB0.out c1)
  have J1 := Lib.hid ((f1 (fun _ => False) (fun _ a => a.elim)).here)
  clear f1
  unfold Tm.val Tm.vals
  clear c1
  refine hK.out _ _ (HCELL.out v1 HB1.out) (fun hHeld => ?_)
  clear hK K
  try simp only [List.getElem_toArray, List.getElem_cons_succ, List.getElem_cons_zero, Act.put, List.setIfInBounds_toArray, List.set_cons_zero, List.set_cons_succ]
  refine wpAnyH_ready (rs := [29]) (by kernel_rfl) (by simp) ?_
  refine AllReadyH.cons rfl (fun K hK => ?_) AllReadyH.nil
  go_simp
  refine ((show Calls Tryz.prog 29 #[tS.val hT, tS.val g1] v1 (fun e w' => e = .returned (.bool true) ∧ Below v1.heap.size v1 w') from (same_iff.2 rfl : same tS tS = true) ▸ RefSame_any tS tS hT g1 v1 (carry I13.out HB1.out) J1.out)).mono ?_
  rintro y v2 ⟨rfl, c2⟩
  have HB2 := Lib.hid (Trm.go HB1.out c2)
  clear c2
  refine hK.out _ _ (HCELL.out v2 HB2.out) (fun hHeld => ?_)
  clear hK K
  try simp only [List.getElem_toArray, List.getElem_cons_succ, List.getElem_cons_zero, Act.put, List.setIfInBounds_toArray, List.set_cons_zero, List.set_cons_succ]
  refine wpAnyH_take (i := 30) (v := ?vwk30) rfl (by kernel_rfl) (by kernel_rfl) (by kernel_rfl) (fun _ _ _ h => h) (Or.inl ⟨by rfl, ?hywk30⟩) (by assumption) ?restwk30
  case hywk30 => (intro w hSw; (try dsimp only at hSw); go_simp <;> with_reducible rfl)
  try simp only [List.getElem_toArray, List.getElem_cons_succ, List.getElem_cons_zero, Act.put, List.setIfInBounds_toArray, List.set_cons_zero, List.set_cons_succ]
  refine wpAnyH_take (i := 31) (v := ?vwk31) rfl (by kernel_rfl) (by kernel_rfl) (by kernel_rfl) (fun _ _ _ h => h) (Or.inl ⟨by rfl, ?hywk31⟩) (by assumption) ?restwk31
  case hywk31 => (intro w hSw; (try dsimp only at hSw); go_simp <;> with_reducible rfl)
  try simp only [List.getElem_toArray, List.getElem_cons_succ, List.getElem_cons_zero, Act.put, List.setIfInBounds_toArray, List.set_cons_zero, List.set_cons_succ]
  refine wpAnyH_take (i := 32) (v := ?vwk32) rfl (by kernel_rfl) (by kernel_rfl) (by kernel_rfl) (fun _ _ _ h => h) (Or.inl ⟨by rfl, ?hywk32⟩) (by assumption) ?restwk32
  case hywk32 => (intro w hSw; (try dsimp only at hSw); go_simp <;> with_reducible rfl)
  try simp only [List.getElem_toArray, List.getElem_cons_succ, List.getElem_cons_zero, Act.put, List.setIfInBounds_toArray, List.set_cons_zero, List.set_cons_succ]
  refine wpAnyH_ready (rs := [33]) (by kernel_rfl) (by simp) ?_
  refine AllReadyH.cons rfl (fun K hK => ?_) AllReadyH.nil
  go_simp
  refine (list_any (H13.out.below HB2.out).env.env).mono ?_
  rintro y v3 ⟨vl, rfl, hl, c3⟩
  have HB3 := Lib.hid (Trm.go HB2.out c3)
  obtain ⟨al, cl, hvl⟩ := row_slice hl
  subst hvl
  clear hl
  clear c3
  refine hK.out _ _ (HCELL.out v3 HB3.out) (fun hHeld => ?_)
  clear hK K
  try simp only [List.getElem_toArray, List.getElem_cons_succ, List.getElem_cons_zero, Act.put, List.setIfInBounds_toArray, List.set_cons_zero, List.set_cons_succ]
  refine wpAnyH_take (i := 34) (v := ?vwk34) rfl (by kernel_rfl) (by kernel_rfl) (by kernel_rfl) (fun _ _ _ h => h) (Or.inl ⟨by rfl, ?hywk34⟩) (by assumption) ?restwk34
  case hywk34 => (intro w hSw; (try dsimp only at hSw); go_simp <;> with_reducible rfl)
  try simp only [List.getElem_toArray, List.getElem_cons_succ, List.getElem_cons_zero, Act.put, List.setIfInBounds_toArray, List.set_cons_zero, List.set_cons_succ]
  refine wpAnyH_take (i := 35) (v := ?vwk35) rfl (by kernel_rfl) (by kernel_rfl) (by kernel_rfl) (fun _ _ _ h => h) (Or.inl ⟨by rfl, ?hywk35⟩) (by assumption) ?restwk35
  case hywk35 => (intro w hSw; (try dsimp only at hSw); go_simp <;> with_reducible rfl)
  try simp only [List.getElem_toArray, List.getElem_cons_succ, List.getElem_cons_zero, Act.put, List.setIfInBounds_toArray, List.set_cons_zero, List.set_cons_succ]
  refine wpAnyH_take (i := 36) (v := ?vwk36) rfl (by kernel_rfl) (by kernel_rfl) (by kernel_rfl) (fun _ _ _ h => h) (Or.inl ⟨by rfl, ?hywk36⟩) (by assumption) ?restwk36
  case hywk36 => (intro w hSw; (try dsimp only at hSw); go_simp <;> with_reducible rfl)
  try simp only [List.getElem_toArray, List.getElem_cons_succ, List.getElem_cons_zero, Act.put, List.setIfInBounds_toArray, List.set_cons_zero, List.set_cons_succ]
  refine wpAnyH_take (i := 37) (v := ?vwk37) rfl (by kernel_rfl) (by kernel_rfl) (by kernel_rfl) (fun _ _ _ h => h) (Or.inl ⟨by rfl, ?hywk37⟩) (by assumption) ?restwk37
  case hywk37 => (intro w hSw; (try dsimp only at hSw); go_simp <;> with_reducible rfl)
  try simp only [List.getElem_toArray, List.getElem_cons_succ, List.getElem_cons_zero, Act.put, List.setIfInBounds_toArray, List.set_cons_zero, List.set_cons_succ]
  refine wpAnyH_take (i := 38) (v := ?vwk38) rfl (by kernel_rfl) (by kernel_rfl) (by kernel_rfl) (fun _ _ _ h => h) (Or.inl ⟨by rfl, ?hywk38⟩) (by assumption) ?restwk38
  case hywk38 => (intro w hSw; (try dsimp only at hSw); go_simp <;> with_reducible rfl)
  try simp only [List.getElem_toArray, List.getElem_cons_succ, List.getElem_cons_zero, Act.put, List.setIfInBounds_toArray, List.set_cons_zero, List.set_cons_succ]
  refine wpAnyH_ready (rs := [39]) (by kernel_rfl) (by simp) ?_
  refine AllReadyH.cons rfl (fun K hK => ?_) AllReadyH.nil
  go_simp
  refine (CE_any _ _).mono ?_
  rintro y v4 ⟨rfl, c4⟩
  have HB4 := Lib.hid (Trm.go HB3.out c4)
  unfold Tm.val Tm.vals zHd
  clear c4
  refine hK.out _ _ (HCELL.out v4 HB4.out) (fun hHeld => ?_)
  clear hK K
  refine wpAnyH_ready (rs := [40]) (by kernel_rfl) (by simp) ?_
  refine AllReadyH.cons rfl (fun K hK => ?_) AllReadyH.nil
  go_simp
  refine ((show Calls Tryz.prog 31 #[.pointer (some ⟨e, 0, none⟩), (tC ⟨#[68]⟩).val zHd] v4 (fun y w' => y = .returned (.int .i64 1) ∧ Below v4.heap.size v4 w') from a8 bE hE bD hD ▸ height_any (H13.out.below HB4.out).env.env (tC ⟨#[68]⟩) zHd (C_firm (P := fun _ => False) ⟨#[68]⟩ (by decide)).here (by kernel_rfl))).mono ?_
  rintro y v5 ⟨rfl, c5⟩
  have HB5 := Lib.hid (Trm.go HB4.out c5)
  clear c5
  refine hK.out _ _ (HCELL.out v5 HB5.out) (fun hHeld => ?_)
  clear hK K
  try simp only [List.getElem_toArray, List.getElem_cons_succ, List.getElem_cons_zero, Act.put, List.setIfInBounds_toArray, List.set_cons_zero, List.set_cons_succ]
  refine wpAnyH_take (i := 41) (v := ?vwk41) rfl (by kernel_rfl) (by kernel_rfl) (by kernel_rfl) (fun _ _ _ h => h) (Or.inl ⟨by rfl, ?hywk41⟩) (by assumption) ?restwk41
  case hywk41 => (intro w hSw; (try dsimp only at hSw); go_simp <;> with_reducible rfl)
  try simp only [List.getElem_toArray, List.getElem_cons_succ, List.getElem_cons_zero, Act.put, List.setIfInBounds_toArray, List.set_cons_zero, List.set_cons_succ]
  refine wpAnyH_take (i := 42) (v := ?vwk42) rfl (by kernel_rfl) (by kernel_rfl) (by kernel_rfl) (fun _ _ _ h => h) (Or.inl ⟨by rfl, ?hywk42⟩) (by assumption) ?restwk42
  case hywk42 => (intro w hSw; (try dsimp only at hSw); go_simp <;> with_reducible rfl)
  try simp only [List.getElem_toArray, List.getElem_cons_succ, List.getElem_cons_zero, Act.put, List.setIfInBounds_toArray, List.set_cons_zero, List.set_cons_succ]
  refine wpAnyH_take (i := 43) (v := ?vwk43) rfl (by kernel_rfl) (by kernel_rfl) (by kernel_rfl) (fun _ _ _ h => h) (Or.inl ⟨by rfl, ?hywk43⟩) (by assumption) ?restwk43
  case hywk43 => (intro w hSw; (try dsimp only at hSw); go_simp <;> with_reducible rfl)
  try simp only [List.getElem_toArray, List.getElem_cons_succ, List.getElem_cons_zero, Act.put, List.setIfInBounds_toArray, List.set_cons_zero]
  refine wpAnyH_done (by kernel_rfl) ?_ _
  go_wp2_with fail
  go_ret
  exact ⟨rfl, Trm.go H13.out.bel HB5.out⟩
end Go.Proofs.YtiekbhlnnmnklaaGreat

