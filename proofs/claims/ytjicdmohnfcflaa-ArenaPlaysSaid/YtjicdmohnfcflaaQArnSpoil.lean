/-
  battenref05.Spoil: what is done with a term in memory of its own: nothing else is written.
-/
import Derived.Test.YtjicdmohnfcflaaQArnCopy
namespace Go.Proofs.Ytjicdmohnfcflaa
open Go.RowKit Go.Shelf Go.Maps Lvl Trm Arn

namespace Lvl
theorem Room.putO {w : World} {x : Addr} {n : Nat} (h : Room w x n) (b o : Nat) (v0 v1 v2 v3 v4 : Value) : Room (putO w b o v0 v1 v2 v3 v4) x n :=
  ((((h.set b o v0).set b (o + 1) v1).set b (o + 2) v2).set b (o + 3) v3).set b (o + 4) v4
end Lvl

namespace Trm
theorem setCell_tcells {w : World} {b o i : Nat} {t : Tm} {h : Hd} (c : TCells w b o t h) (v : Value) (hi : i < o ∨ o + 5 ≤ i) : TCells (w.setCell ⟨b, i, none⟩ v) b o t h := by
  have key : ∀ j, j < 5 → (w.setCell ⟨b, i, none⟩ v).cell? ⟨b, o + j, none⟩ = w.cell? ⟨b, o + j, none⟩ := fun j hj => World.cell?_setCell_other _ _ _ _ (by
    intro e
    injection e with _ e2 _
    omega)
  exact ⟨(key 0 (by omega)).trans c.c0, (key 1 (by omega)).trans c.c1, (key 2 (by omega)).trans c.c2, (key 3 (by omega)).trans c.c3, (key 4 (by omega)).trans c.c4⟩
theorem putO_tcells {w : World} {b o i : Nat} {t : Tm} {h : Hd} (c : TCells w b o t h) (v0 v1 v2 v3 v4 : Value) (hi : i + 5 ≤ o) : TCells (putO w b i v0 v1 v2 v3 v4) b o t h :=
  setCell_tcells (setCell_tcells (setCell_tcells (setCell_tcells (setCell_tcells c v0 (by omega)) v1 (by omega)) v2 (by omega)) v3 (by omega)) v4 (by omega)
theorem KidSp.turn {P : Nat → Prop} {w w' : World} {lo to : Option Addr} {f g : Nat → Nat} {a b j : Nat} {t : Tm} (h : KidSp w lo to f g a b j t) (hr : RanS P w w') (hq : ∀ q, to = some ⟨q, 0, none⟩ → ¬ P q) (hk : ∀ p, P p → ¬ (f j ≤ p ∧ p < g j)) : KidSp w' lo to f g a b j t := by
  obtain ⟨q, hd, k1, k2, k3, k4, k5, k6, k7, k8, k9, k10, k11⟩ := h
  have hqn := hq q k1
  exact ⟨q, hd, k1, k2, k3, k4.same (hr.block q k4.lt hqn), k5.ranS hr k4.lt hqn, k6, k7, k8, k9, k10, Tm.Sp.ran hr _ _ _ _ k11 hk⟩
theorem KidSp.level {w : World} {lo to : Option Addr} {f g : Nat → Nat} {a b j : Nat} {t : Tm} (h : KidSp w lo to f g a b j t) {x : Addr} (hx : lo = some x) (i : Nat) (v : Value) : KidSp (w.setCell ⟨x.block, i, none⟩ v) lo to f g a b j t := by
  have h0 := h
  obtain ⟨q, hd, k1, k2, k3, k4, k5, k6, k7, k8, k9, k10, k11⟩ := h0
  refine h.turn (P := fun p => p = x.block) (set_ran _ _ _ _ rfl) (fun q' hq' => ?_) (fun p hp => by rw [hp]; exact (k9 x hx).2)
  rw [k1] at hq'
  injection hq' with e
  injection e with e
  rw [← e]
  exact fun e2 => (k9 x hx).1 e2.symm
theorem KidSp.wipe {w : World} {lo to : Option Addr} {f g : Nat → Nat} {a b j q i : Nat} {t : Tm} (h : KidSp w lo to f g a b j t) (hq : to = some ⟨q, 0, none⟩) (v0 v1 v2 v3 v4 : Value) (hi : i < j) : KidSp (putO w q (i * 5) v0 v1 v2 v3 v4) lo to f g a b j t := by
  obtain ⟨q', hd, k1, k2, k3, k4, k5, k6, k7, k8, k9, k10, k11⟩ := h
  rw [hq] at k1
  injection k1 with e
  injection e with e
  subst e
  exact ⟨q, hd, hq, k2, k3, k4.putO _ _ _ _ _ _ _, putO_tcells k5 _ _ _ _ _ (by omega), k6, k7, k8, k9, k10, Tm.Sp.ran (RanS.of_ran (P := fun p => p = q) (putO_ran w q (i * 5) v0 v1 v2 v3 v4) rfl) _ _ _ _ k11 (fun p hp => by rw [hp]; exact k8)⟩
/-- What stands behind the first k parts. -/
structure SpS (a b : Nat) (w : World) (o : Obj) (lo to : Option Addr) (f g : Nat → Nat) (ts : List Tm) (k : Nat) (wr : World) : Prop where
  ran : RanS (fun q => a ≤ q ∧ q < b) w wr
  box : wr.heap[w.heap.size]? = some o
  kids : ∀ j (h : j < ts.length), k ≤ j → KidSp wr lo to f g a b j ts[j]
def SpR1 (a b : Nat) (w : World) (o : Obj) (n : Nat) (lo to : Option Addr) (f g : Nat → Nat) (ts : List Tm) (i : Value) (wr : World) : Prop :=
  ∃ k : Nat, i = .int .i64 k ∧ k ≤ n ∧ LoSp wr lo a b n ∧ SpS a b w o lo to f g ts 0 wr
def SpR2 (a b : Nat) (w : World) (o : Obj) (lo to : Option Addr) (f g : Nat → Nat) (ts : List Tm) (i : Value) (wr : World) : Prop :=
  ∃ k : Nat, i = .int .i64 k ∧ k ≤ ts.length ∧ SpS a b w o lo to f g ts k wr
theorem LoSp.set {w : World} {lo : Option Addr} {a b n : Nat} (h : LoSp w lo a b n) (q i : Nat) (v : Value) : LoSp (w.setCell ⟨q, i, none⟩ v) lo a b n :=
  ⟨h.1, fun x hx => ⟨(h.2 x hx).1, (h.2 x hx).2.1, (h.2 x hx).2.2.set _ _ _⟩⟩
theorem SpS.level {a b : Nat} {w wr : World} {o : Obj} {lo to : Option Addr} {f g : Nat → Nat} {ts : List Tm} {n : Nat} (h : SpS a b w o lo to f g ts 0 wr) (hb : b ≤ w.heap.size) (hl : LoSp wr lo a b n) {x : Addr} (hx : lo = some x) (i : Nat) (v : Value) : SpS a b w o lo to f g ts 0 (wr.setCell ⟨x.block, i, none⟩ v) := by
  obtain ⟨h1, h2, _⟩ := hl.2 x hx
  refine ⟨h.ran.trans (set_ran _ _ _ _ ⟨h1, h2⟩), ?_, fun j hj hk => (h.kids j hj hk).level hx i v⟩
  rw [RowKit.Below.heap_setCell _ ⟨x.block, i, none⟩ _ _ (show w.heap.size ≠ (⟨x.block, i, none⟩ : Addr).block from fun e => by have e2 : w.heap.size = x.block := e; omega)]
  exact h.box
theorem SpS.kid {a b : Nat} {w wr w2 : World} {o : Obj} {lo to : Option Addr} {f g : Nat → Nat} {ts : List Tm} {k q : Nat} (h : SpS a b w o lo to f g ts k wr) (hb : b ≤ w.heap.size) (hk : k < ts.length) (hq : to = some ⟨q, 0, none⟩) (hr : RanS (fun p => f k ≤ p ∧ p < g k) wr w2) :
    SpS a b w o lo to f g ts (k + 1) w2 ∧ Room w2 ⟨q, 0, none⟩ ((k + 1) * 5) ∧ a ≤ q ∧ q < b := by
  obtain ⟨q', hd, k1, k2, k3, k4, k5, k6, k7, k8, k9, k10, k11⟩ := h.kids k hk (Nat.le_refl _)
  rw [hq] at k1
  injection k1 with e
  injection e with e
  subst e
  refine ⟨⟨ranS_go h.ran hr (fun p hp => Or.inl ⟨by omega, by omega⟩), hr.keep h.box (fun hp => by omega), fun j hj hkj => ?_⟩, k4.same (hr.block q k4.lt (fun hp => k8 hp)), k2, k3⟩
  have hkk := h.kids j hj (by omega)
  obtain ⟨_, _, _, _, _, _, _, _, _, _, _, j10, _⟩ := id hkk
  refine hkk.turn hr (fun q' hq' hp => ?_) (fun p hp hpp => by have := j10 k (by omega); omega)
  rw [hq] at hq'
  injection hq' with e
  injection e with e
  subst e
  exact k8 hp
theorem SpS.wipe {a b : Nat} {w wr : World} {o : Obj} {lo to : Option Addr} {f g : Nat → Nat} {ts : List Tm} {k q : Nat} (h : SpS a b w o lo to f g ts (k + 1) wr) (hb : b ≤ w.heap.size) (hq : to = some ⟨q, 0, none⟩) (hqa : a ≤ q) (hqb : q < b) (v0 v1 v2 v3 v4 : Value) :
    SpS a b w o lo to f g ts (k + 1) (putO wr q (k * 5) v0 v1 v2 v3 v4) := by
  have hp := putO_ran wr q (k * 5) v0 v1 v2 v3 v4
  refine ⟨ranS_go h.ran (RanS.of_ran (P := fun p => p = q) hp rfl) (fun p e => Or.inl (by rw [e]; exact ⟨hqa, hqb⟩)), ?_, fun j hj hkj => (h.kids j hj hkj).wipe hq _ _ _ _ _ (by omega)⟩
  exact (RanS.of_ran (P := fun p => p = q) hp rfl).keep h.box (fun e => by omega)
def SpoilPost (a b : Nat) (w : World) (e : Ending) (w' : World) : Prop := e = .returned (.tuple #[]) ∧ RanS (fun q => a ≤ q ∧ q < b) w w'
end Trm

set_option maxRecDepth 100000 in
set_option maxHeartbeats 4000000 in
theorem Spoil_any (t : Tm) : ∀ (w : World) (a b : Nat) (h : Hd), NotBad t → t.Sp w a b h → b ≤ w.heap.size →
    Calls Try.prog 12 #[t.val h] w (SpoilPost a b w) := by
  induction t using Tm.ind with
  | h t ih =>
    intro w a b h hnb hsp hbw
    have HIH := Lib.hid ih
    have HNB := Lib.hid hnb
    have hls := hnb.ls
    have hts := hnb.ts
    obtain ⟨hlo, f, g, hkids⟩ := Tm.Sp_iff.1 hsp
    have HS : Hid (SpR1 a b w (t.box h) t.ls.length h.lo h.to f g t.ts (.int .i64 (0 : Nat)) (w.alloc (t.box h))) := Lib.hid (by
      have hb1 : Below w.heap.size w (w.alloc (t.box h)) := below_one _ _
      refine ⟨0, rfl, by omega, ⟨hlo.1, fun x hx => ⟨(hlo.2 x hx).1, (hlo.2 x hx).2.1, (hlo.2 x hx).2.2.same (hb1.block _ (hlo.2 x hx).2.2.lt)⟩⟩, RanS.of_below hb1, World.alloc_heap_new w _, fun j hj _ => (hkids j hj).turn (P := fun _ => False) (RanS.of_below hb1) (fun _ _ hp => hp) (fun _ hp => hp.elim)⟩)
    clear ih hnb hsp hlo hkids
    unfold Tm.val Tm.vals
    go_enter Try.func12, Try.ntmps12
    go_wp2_with fail
    go_loopw [2] (fun i wr => SpR1 a b w (t.box h) t.ls.length h.lo h.to f g t.ts i wr) (fun i _ => t.ls.length - (intOf i).toNat)
    case atStart => exact HS.out
    case round =>
      obtain ⟨k, rfl, hk, hl, hs⟩ := hrel
      have HL := Lib.hid hl
      have HR := Lib.hid hs
      obtain ⟨c0, c1, c2, c3, c4⟩ := Tm.cells hs.box
      clear hl hs HS
      by_cases hlt : k < t.ls.length
      · obtain ⟨x, hx⟩ := HL.out.1 (by omega)
        obtain ⟨_, _, hrm⟩ := HL.out.2 x hx
        obtain ⟨z, hz⟩ : ∃ z, z = x.block := ⟨_, rfl⟩
        have hxe : x = ⟨z, 0, none⟩ := by rw [hz]; exact hrm.1
        obtain ⟨u, hu⟩ := hrm.there (o := k * 5) (by omega)
        have hfz := hrm.free (k * 5)
        have HN : Hid (SpR1 a b w (t.box h) t.ls.length h.lo h.to f g t.ts (.int .i64 ((k : Int) + 1)) (wr.setCell ⟨z, k * 5, none⟩ (.int .i64 77))) := Lib.hid ⟨k + 1, by go_num, hlt, HL.out.set _ _ _, hz ▸ HR.out.level hbw HL.out hx _ _⟩
        rw [hx, hxe] at c3
        rw [← hz] at hu hfz
        have hwk : IntKind.i64.wrap ((k : Int) + 1) = (k : Int) + 1 := IntWalk.i64_in _ (by omega)
        clear hx hrm hz hxe
        go_wp2_with fail
        go_roundw
        case rel => exact HN.out
        case measure => simp [intOf]; omega
      · go_wp2_with fail
        clear c0 c1 c2 c3 c4
        have H0 : Hid (SpR2 a b w (t.box h) h.lo h.to f g t.ts (.int .i64 (0 : Nat)) wr) := Lib.hid ⟨0, rfl, by omega, HR.out⟩
        obtain ⟨w1, hw1⟩ : ∃ x : World, x = wr := ⟨_, rfl⟩
        subst hw1
        clear HL HR
        go_loopw [3] (fun i wr => SpR2 a b w (t.box h) h.lo h.to f g t.ts i wr) (fun i _ => t.ts.length - (intOf i).toNat)
        case atStart => exact H0.out
        case round =>
          obtain ⟨k, rfl, hk, hs⟩ := hrel
          have HR := Lib.hid hs
          obtain ⟨c0, c1, c2, c3, c4⟩ := Tm.cells hs.box
          clear hs H0
          by_cases hlt : k < t.ts.length
          · obtain ⟨q, hd, hq, _, _, _, ⟨k0, k1, k2, k3, k4⟩, _, hgb, _, _, _, hsp⟩ := HR.out.kids k hlt (Nat.le_refl _)
            have HX := Lib.hid (HIH.out _ (List.getElem_mem hlt) wr _ _ hd (HNB.out.part (List.getElem_mem hlt)) hsp (by have := HR.out.ran.size; omega))
            have HQ := Lib.hid hq
            have HLT := Lib.hid hlt
            rw [hq] at c4
            clear hq hsp
            generalize t.ts[k] = x at k0 k1 k2 k3 k4 HX
            unfold Tm.val Tm.vals at HX
            go_wp2_with fail
            refine HX.out.mono ?_
            rintro e w2 ⟨rfl, r2⟩
            obtain ⟨hs2, hrm, hqa, hqb⟩ := HR.out.kid hbw HLT.out HQ.out r2
            have HS2 := Lib.hid hs2
            obtain ⟨y0, hy0⟩ := hrm.there (o := k * 5) (by omega)
            obtain ⟨y1, hy1⟩ := hrm.there (o := k * 5 + 1) (by omega)
            obtain ⟨y2, hy2⟩ := hrm.there (o := k * 5 + 2) (by omega)
            obtain ⟨y3, hy3⟩ := hrm.there (o := k * 5 + 3) (by omega)
            obtain ⟨y4, hy4⟩ := hrm.there (o := k * 5 + 4) (by omega)
            have f0 := hrm.free (k * 5)
            have f1 := hrm.free (k * 5 + 1)
            have f2 := hrm.free (k * 5 + 2)
            have f3 := hrm.free (k * 5 + 3)
            have f4 := hrm.free (k * 5 + 4)
            have HN : Hid (SpR2 a b w (t.box h) h.lo h.to f g t.ts (.int .i64 ((k : Int) + 1)) (putO w2 q (k * 5) (.int .u8 0) (.int .i64 0) (.string ⟨#[]⟩) (.slice none 0 0) (.slice none 0 0))) := Lib.hid ⟨k + 1, by go_num, HLT.out, hs2.wipe hbw HQ.out hqa hqb _ _ _ _ _⟩
            unfold putO at HN
            clear c0 c1 c2 c3 c4 k0 k1 k2 k3 k4 hs2 r2 hrm HX
            obtain ⟨c0, c1, c2, c3, c4⟩ := Tm.cells HS2.out.box
            rw [HQ.out] at c4
            have hwk : IntKind.i64.wrap ((k : Int) + 1) = (k : Int) + 1 := IntWalk.i64_in _ (by omega)
            clear HS2
            go_wp2_with fail
            go_roundw
            case rel => exact HN.out
            case measure => simp [intOf]; omega
          · have HE := Lib.hid HR.out.ran
            go_wp2_with fail
            go_end0
            exact ⟨rfl, HE.out⟩
end Go.Proofs.Ytjicdmohnfcflaa

