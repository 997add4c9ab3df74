/-
 env.Value: of a Const that is a definition.
-/
import Derived.Lib.Hide
import Derived.Test.YtiekbhlnnmnklaaGreatQB1
import Derived.Test.YtiekbhlnnmnklaaGreatQB27
import Derived.Laws.CopyOwn
import Derived.Shelf.SlMaps.Clone
open Go.Lib (hid)
set_option maxRecDepth 100000
set_option maxHeartbeats 32000000
namespace Go.Proofs.YtiekbhlnnmnklaaGreat
open Go.RowKit Go.Shelf Go.Maps Lvl Trm Env
namespace Env
noncomputable def vaAns (L : List Ent) (t : Tm) : Tm × Int := match ofO L t with
 | none => (zeroT,ofE L t)
 | some p => if p.2.1.kind = 2 then levelsAns p.2.1.va t.ls else (zeroT,6)
end Env
theorem value_any {B : Nat} {w : World} {e : Nat} {L : List Ent} {mo : Option Nat} {v : Value} (h : EnvB B w e L mo v) (t : Tm) (hd : Hd) (hin : t.In w.heap.size w hd) (hl : t.ls.length ≤ 1000000) (hc : t.ls.length ≤ hd.lc) :
 Calls Tryz.prog 27 #[.pointer (some ⟨e,0,none⟩),t.val hd] w (TAns (vaAns L t) w) := by
 obtain ⟨WB,hWB⟩ : ∃ WB,WB = (w.alloc (t.box hd)).alloc (.cells #[.int .u8 0,.int .i64 0,.string no,.slice none 0 0,.slice none 0 0] 27) := ⟨_,rfl⟩
 have HBB := hid (show Below w.heap.size w WB from hWB ▸ below_two _ _ _)
 have HBX := hid (show WB.heap[w.heap.size]? = some (t.box hd) from hWB ▸ new1of2 _ _ _)
 have HBA := hid (show WB.heap[w.heap.size + 1]? = some (.cells #[.int .u8 0,.int .i64 0,.string no,.slice none 0 0,.slice none 0 0] 27) from hWB ▸ new2 _ _ _)
 have HOF := hid (fun (W : World) (hW : Below w.heap.size w W) => of_any (h.below hW) t hd (carry hin hW) (by have := hin.fit.s; unfold maxLen; exact this))
 have HENV := hid h
 have HIN := hid hin
 by_cases h0 : ofE L t = 0
 ·obtain ⟨hk,hm,p,hlk,hO,hpar⟩ := ofE_zero h0
  have HOF2 := hid (fun (W : World) (hW : Below w.heap.size w W) => (show Calls Tryz.prog 63 #[.pointer (some ⟨e,0,none⟩),t.val hd] W (fun y w' => y = .returned (.tuple #[.pointer (some ⟨p.1,0,none⟩),.int .i64 0]) ∧ Below W.heap.size W w') from by have := HOF.out W hW; unfold OfPost at this; rw [hO,h0] at this; exact this))
  have hp := (lookE_some hlk).1
  have HP := hid (fun (W : World) (hW : Below w.heap.size w W) => ((h.below hW).info p hp).1)
  have HPN : Hid (p.1 ≠ w.heap.size + 1) := hid (by have := (HP.out w (Below.refl _ _)).lt; omega)
  by_cases hkd : p.2.1.kind = 2
  ·have hA : vaAns L t = levelsAns p.2.1.va t.ls := by unfold vaAns; rw [hO]; simp only; rw [if_pos hkd]
   have hk0 : (p.2.1.kind == 2) = true := by simpa using hkd
   have hk1 : (p.2.1.kind != 2) = false := by simpa using hkd
   have HLV := hid (fun (W : World) (hW : Below w.heap.size w W) => Levels_any p.2.1.va p.2.2.va t.ls hd.lo hd.lc W (((h.below hW).firm p hp).va.here) (Tm.In_iff.1 (carry hin hW)).2.1 (Tm.In_iff.1 (carry hin hW)).2.2.1 hl hc)
   have HMD := hid (levels_made p.2.1.va t.ls)
   rw [hA]
   obtain ⟨a,ha⟩ : ∃ a,a = levelsAns p.2.1.va t.ls := ⟨_,rfl⟩
   rw [← ha] at HLV HMD ⊢
   clear hkd hO hA h hin hl hc HOF h0 ha hk hm hlk hpar hp
   obtain ⟨a1,a2⟩ := a
   unfold Tm.val Tm.vals at *
   go_enter Tryz.func27,Tryz.ntmps27
   unfold Tm.box Tm.vals no at hWB
   go_wp2_with fail
   rw [← hWB]
   clear hWB
   refine (HOF2.out WB HBB.out).mono ?_
   rintro y w1 ⟨rfl,b1⟩
   have hA1 := Lvl.keep b1 HBA.out
   have HB1 := hid (Trm.go HBB.out b1)
   have HX1 := hid (Lvl.keep b1 HBX.out)
   have HI1 := hid (HP.out w1 HB1.out)
   obtain ⟨x0,x1,x2,x3,x4⟩ := Tm.cells HX1.out
   have HA1 := hid hA1
   have c0 : w1.cell? ⟨p.1,0,none⟩ = some (.int .u8 p.2.1.kind) := HI1.out.cell 0
   have c3 : w1.cell? ⟨p.1,8,none⟩ = some (.int .u8 p.2.1.va.k) := HI1.out.cell 8
   have c4 : w1.cell? ⟨p.1,9,none⟩ = some (.int .i64 p.2.1.va.n) := HI1.out.cell 9
   have c5 : w1.cell? ⟨p.1,10,none⟩ = some (.string p.2.1.va.s) := HI1.out.cell 10
   have c6 : w1.cell? ⟨p.1,11,none⟩ = some (.slice p.2.2.va.lo p.2.1.va.ls.length p.2.2.va.lc) := HI1.out.cell 11
   have c7 : w1.cell? ⟨p.1,12,none⟩ = some (.slice p.2.2.va.to p.2.1.va.ts.length p.2.2.va.tc) := HI1.out.cell 12
   clear hA1 b1 HOF2
   go_wp2_with fail
   have HBD := hid (show Below w.heap.size w w1.drew from HB1.out.drew)
   have HAD := hid (show w1.drew.heap[w.heap.size + 1]? = _ from HA1.out)
   have HXD := hid (show w1.drew.heap[w.heap.size]? = some (t.box hd) from HX1.out)
   refine wp_region_held_drew (S := fun w' => w'.cell? ⟨w.heap.size,3,none⟩ = some (.slice hd.lo t.ls.length hd.lc) ∧ w'.cell? ⟨p.1,8,none⟩ = some (.int .u8 p.2.1.va.k) ∧ w'.cell? ⟨p.1,9,none⟩ = some (.int .i64 p.2.1.va.n) ∧ w'.cell? ⟨p.1,10,none⟩ = some (.string p.2.1.va.s) ∧ w'.cell? ⟨p.1,11,none⟩ = some (.slice p.2.2.va.lo p.2.1.va.ls.length p.2.2.va.lc) ∧ w'.cell? ⟨p.1,12,none⟩ = some (.slice p.2.2.va.to p.2.1.va.ts.length p.2.2.va.tc)) (by kernel_rfl) (⟨x3,c3,c4,c5,c6,c7⟩) (fun hHeld => ?_)
   refine wpAnyH_take (i := 0) (v := ?vty0) rfl (by kernel_rfl) (by kernel_rfl) (by kernel_rfl) (fun _ _ _ h => h) (Or.inl ⟨by rfl,?hyty0⟩) (by assumption) ?restty0
   case hyty0 => (intro w hSw; (try dsimp only at hSw); go_simp <;> with_reducible rfl)
   try simp only [zqT,zqZ,Act.put,zqB,zq0,zq1]
   refine wpAnyH_take (i := 1) (v := ?vty1) rfl (by kernel_rfl) (by kernel_rfl) (by kernel_rfl) (fun _ _ _ h => h) (Or.inl ⟨by rfl,?hyty1⟩) (by assumption) ?restty1
   case hyty1 => (intro w hSw; (try dsimp only at hSw); go_simp <;> with_reducible rfl)
   try simp only [zqT,zqS,zqZ,Act.put,zqB,zq0,zq1]
   refine wpAnyH_take (i := 2) (v := ?vty2) rfl (by kernel_rfl) (by kernel_rfl) (by kernel_rfl) (fun _ _ _ h => h) (Or.inl ⟨by rfl,?hyty2⟩) (by assumption) ?restty2
   case hyty2 => (intro w hSw; (try dsimp only at hSw); go_simp <;> with_reducible rfl)
   try simp only [zqT,zqS,zqZ,Act.put,zqB,zq0,zq1]
   refine wpAnyH_take (i := 3) (v := ?vty3) rfl (by kernel_rfl) (by kernel_rfl) (by kernel_rfl) (fun _ _ _ h => h) (Or.inl ⟨by rfl,?hyty3⟩) (by assumption) ?restty3
   case hyty3 => (intro w hSw; (try dsimp only at hSw); go_simp <;> with_reducible rfl)
   try simp only [zqT,zqS,zqZ,Act.put,zqB,zq0,zq1]
   refine wpAnyH_take (i := 4) (v := ?vty4) rfl (by kernel_rfl) (by kernel_rfl) (by kernel_rfl) (fun _ _ _ h => h) (Or.inl ⟨by rfl,?hyty4⟩) (by assumption) ?restty4
   case hyty4 => (intro w hSw; (try dsimp only at hSw); go_simp <;> with_reducible rfl)
   try simp only [zqT,zqS,zqZ,Act.put,zqB,zq0,zq1]
   refine wpAnyH_take (i := 5) (v := ?vty5) rfl (by kernel_rfl) (by kernel_rfl) (by kernel_rfl) (fun _ _ _ h => h) (Or.inl ⟨by rfl,?hyty5⟩) (by assumption) ?restty5
   case hyty5 => (intro w hSw; (try dsimp only at hSw); go_simp <;> with_reducible rfl)
   try simp only [zqT,zqS,zqZ,Act.put,zqB,zq0,zq1]
   refine wpAnyH_ready (rs := [6]) (by kernel_rfl) (by simp) ?_
   refine AllReadyH.cons rfl (fun K hK => ?_) AllReadyH.nil
   go_simp
   refine (HLV.out w1.drew HBD.out).mono ?_
   rintro y w2 ⟨h',rfl,hi2,b2⟩
   have HI2 := hid hi2
   have HB2 := hid (Trm.go HBD.out b2)
   have HA2 := hid (Lvl.keep b2 HAD.out)
   have HX2 := hid (Lvl.keep b2 HXD.out)
   have HP2 := hid (HP.out w2 HB2.out)
   have HY2 := hid (show w2.cell? ⟨w.heap.size,3,none⟩ = some (.slice hd.lo t.ls.length hd.lc) from (Tm.cells HX2.out).c3)
   obtain ⟨q0,q1,q2,q3,q4⟩ := five_cells HA2.out
   obtain ⟨f0,f1,f2,f3,f4⟩ := five_free HA2.out
   clear hi2 b2
   refine hK.out _ _ (⟨HY2.out,HP2.out.cell 8,HP2.out.cell 9,HP2.out.cell 10,HP2.out.cell 11,HP2.out.cell 12⟩) (fun hHeld => ?_)
   clear hK K
   try simp only [zqT,zqS,zqZ,Act.put,zqB,zq0,zq1]
   refine wpAnyH_take (i := 7) (v := ?vty7) rfl (by kernel_rfl) (by kernel_rfl) (by kernel_rfl) (fun _ _ _ h => h) (Or.inl ⟨by rfl,?hyty7⟩) (by assumption) ?restty7
   case hyty7 => (intro w hSw; (try dsimp only at hSw); go_simp <;> with_reducible rfl)
   try simp only [zqT,zqS,zqZ,Act.put,zqB,zq0,zq1]
   refine wpAnyH_take (i := 8) (v := ?vty8) rfl (by kernel_rfl) (by kernel_rfl) (by kernel_rfl) (fun _ _ _ h => h) (Or.inl ⟨by rfl,?hyty8⟩) (by assumption) ?restty8
   case hyty8 => (intro w hSw; (try dsimp only at hSw); go_simp <;> with_reducible rfl)
   try simp only [zqT,zqS,zqZ,Act.put,zqB,zq0,zq1]
   refine wpAnyH_ready (rs := [9]) (by kernel_rfl) (by simp) ?_
   refine AllReadyH.cons rfl (fun K hK => ?_) AllReadyH.nil
   go_simp
   refine hK.out _ _ (⟨putT_cell HY2.out (by omega) _ _ _ _ _,putT_cell (HP2.out.cell 8) HPN.out _ _ _ _ _,putT_cell (HP2.out.cell 9) HPN.out _ _ _ _ _,putT_cell (HP2.out.cell 10) HPN.out _ _ _ _ _,putT_cell (HP2.out.cell 11) HPN.out _ _ _ _ _,putT_cell (HP2.out.cell 12) HPN.out _ _ _ _ _⟩) (fun hHeld => ?_)
   clear hK K
   try simp only [zqT,zqS,zqZ,Act.put,zqB,zq0,zq1]
   refine wpAnyH_take (i := 10) (v := ?vty10) rfl (by kernel_rfl) (by kernel_rfl) (by kernel_rfl) (fun _ _ _ h => h) (Or.inl ⟨by rfl,?hyty10⟩) (by assumption) ?restty10
   case hyty10 => (intro w hSw; (try dsimp only at hSw); go_simp <;> with_reducible rfl)
   try simp only [zqT,zqS,zqZ,Act.put,zqB,zq0,zq1]
   refine wpAnyH_done (by kernel_rfl) ?_ _
   have h5 := putT_self HA2.out (.int .u8 a1.k) (.int .i64 a1.n) (.string a1.s) (.slice h'.lo a1.ls.length h'.lc) (.slice h'.to a1.ts.length h'.tc)
   have b5 := putT_below HB2.out (by omega : w.heap.size ≤ w.heap.size + 1) (.int .u8 a1.k) (.int .i64 a1.n) (.string a1.s) (.slice h'.lo a1.ls.length h'.lc) (.slice h'.to a1.ts.length h'.tc)
   have r5 := putT_ran w2 (w.heap.size + 1) (.int .u8 a1.k) (.int .i64 a1.n) (.string a1.s) (.slice h'.lo a1.ls.length h'.lc) (.slice h'.to a1.ts.length h'.tc)
   have i5 := made_turn HA2.out r5 HMD.out HI2.out
   unfold putT at h5 b5 i5
   clear r5 hHeld
   generalize hW : ((((w2.setCell ⟨w.heap.size + 1,0,none⟩ (.int .u8 a1.k)).setCell ⟨w.heap.size + 1,1,none⟩ (.int .i64 a1.n)).setCell ⟨w.heap.size + 1,2,none⟩ (.string a1.s)).setCell ⟨w.heap.size + 1,3,none⟩ (.slice h'.lo a1.ls.length h'.lc)).setCell ⟨w.heap.size + 1,4,none⟩ (.slice h'.to a1.ts.length h'.tc) = W4 at h5 b5 i5 ⊢
   obtain ⟨e0,e1,e2,e3,e4⟩ := five_cells h5
   have HI5 := hid i5
   clear hW i5 c0 q0 q1 q2 q3 q4 f0 f1 f2 f3 f4 x0 x1 x2 x3 x4 c3 c4 c5 c6 c7
   go_wp2_with fail
   exact bodyPost_ret (v := .tuple #[a1.val h',.int .i64 a2]) (by simp [results,Tryz.results27,go_sem,e0,e1,e2,e3,e4,Tm.val,Tm.vals]) rfl ⟨h',rfl,HI5.out,b5⟩
  ·have hA : vaAns L t = (zeroT,6) := by unfold vaAns; rw [hO]; simp only; rw [if_neg hkd]
   have hk0 : (p.2.1.kind == 2) = false := by simpa using hkd
   have hk1 : (p.2.1.kind != 2) = true := by simpa using hkd
   rw [hA]
   clear hO hA h hin hl hc HOF h0 hk hm hlk hpar hp hkd
   unfold Tm.val Tm.vals at *
   go_enter Tryz.func27,Tryz.ntmps27
   unfold Tm.box Tm.vals no at hWB
   go_wp2_with fail
   rw [← hWB]
   clear hWB
   refine (HOF2.out WB HBB.out).mono ?_
   rintro y w1 ⟨rfl,b1⟩
   have hA1 := Lvl.keep b1 HBA.out
   have HB1 := hid (Trm.go HBB.out b1)
   have c0 : w1.cell? ⟨p.1,0,none⟩ = some (.int .u8 p.2.1.kind) := (HP.out w1 HB1.out).cell 0
   obtain ⟨a0,a1,a2,a3,a4⟩ := five_cells hA1
   obtain ⟨f0,f1,f2,f3,f4⟩ := five_free hA1
   have HA1 := hid hA1
   clear hA1 b1 HOF2
   go_wp2_with fail
   have h5 := putT_self HA1.out (.int .u8 0) (.int .i64 0) (.string no) (.slice none 0 0) (.slice none 0 0)
   have b5 := putT_below HB1.out (by omega : w.heap.size ≤ w.heap.size + 1) (.int .u8 0) (.int .i64 0) (.string no) (.slice none 0 0) (.slice none 0 0)
   unfold putT no at h5 b5
   generalize hW : ((((w1.setCell ⟨w.heap.size + 1,0,none⟩ (.int .u8 0)).setCell ⟨w.heap.size + 1,1,none⟩ (.int .i64 0)).setCell ⟨w.heap.size + 1,2,none⟩ (.string ⟨#[]⟩)).setCell ⟨w.heap.size + 1,3,none⟩ (.slice none 0 0)).setCell ⟨w.heap.size + 1,4,none⟩ (.slice none 0 0) = W4 at h5 b5 ⊢
   obtain ⟨e0,e1,e2,e3,e4⟩ := five_cells h5
   clear hW
   exact bodyPost_ret (v := .tuple #[zeroT.val ⟨none,0,none,0⟩,.int .i64 6]) (by simp [results,Tryz.results27,go_sem,e0,e1,e2,e3,e4,zeroT,Tm.val,Tm.vals,Tm.k,Tm.n,Tm.s,Tm.ls,Tm.ts,no]) rfl ⟨⟨none,0,none,0⟩,rfl,leaf_in (by decide) (by decide) (by decide) (by decide) (by decide),b5⟩
 ·have hO := ofO_none h0
  have hA : vaAns L t = (zeroT,ofE L t) := by unfold vaAns; rw [hO]
  have HOF2 := hid (fun (W : World) (hW : Below w.heap.size w W) => (show Calls Tryz.prog 63 #[.pointer (some ⟨e,0,none⟩),t.val hd] W (fun y w' => y = .returned (.tuple #[.pointer none,.int .i64 (ofE L t)]) ∧ Below W.heap.size W w') from by have := HOF.out W hW; unfold OfPost at this; rw [hO] at this; exact this))
  rw [hA]
  obtain ⟨z,hz⟩ : ∃ z,z = ofE L t := ⟨_,rfl⟩
  rw [← hz] at HOF2 h0 ⊢
  have hz1 : (z == 0) = false := by simpa using h0
  have hz2 : (z != 0) = true := by simpa using h0
  clear hO hA h hin hl hc HOF hz h0
  unfold Tm.val Tm.vals at *
  go_enter Tryz.func27,Tryz.ntmps27
  unfold Tm.box Tm.vals no at hWB
  go_wp2_with fail
  rw [← hWB]
  clear hWB
  refine (HOF2.out WB HBB.out).mono ?_
  rintro y w1 ⟨rfl,b1⟩
  have hA1 := Lvl.keep b1 HBA.out
  have HB1 := hid (Trm.go HBB.out b1)
  obtain ⟨a0,a1,a2,a3,a4⟩ := five_cells hA1
  obtain ⟨f0,f1,f2,f3,f4⟩ := five_free hA1
  have HA1 := hid hA1
  clear hA1 b1 HOF2
  go_wp2_with fail
  have h5 := putT_self HA1.out (.int .u8 0) (.int .i64 0) (.string no) (.slice none 0 0) (.slice none 0 0)
  have b5 := putT_below HB1.out (by omega : w.heap.size ≤ w.heap.size + 1) (.int .u8 0) (.int .i64 0) (.string no) (.slice none 0 0) (.slice none 0 0)
  unfold putT no at h5 b5
  generalize hW : ((((w1.setCell ⟨w.heap.size + 1,0,none⟩ (.int .u8 0)).setCell ⟨w.heap.size + 1,1,none⟩ (.int .i64 0)).setCell ⟨w.heap.size + 1,2,none⟩ (.string ⟨#[]⟩)).setCell ⟨w.heap.size + 1,3,none⟩ (.slice none 0 0)).setCell ⟨w.heap.size + 1,4,none⟩ (.slice none 0 0) = W4 at h5 b5 ⊢
  obtain ⟨e0,e1,e2,e3,e4⟩ := five_cells h5
  clear hW
  exact bodyPost_ret (v := .tuple #[zeroT.val ⟨none,0,none,0⟩,.int .i64 z]) (by simp [results,Tryz.results27,go_sem,e0,e1,e2,e3,e4,zeroT,Tm.val,Tm.vals,Tm.k,Tm.n,Tm.s,Tm.ls,Tm.ts,no]) rfl ⟨⟨none,0,none,0⟩,rfl,leaf_in (by decide) (by decide) (by decide) (by decide) (by decide),b5⟩
end Go.Proofs.YtiekbhlnnmnklaaGreat
namespace Go.Proofs.YtiekbhlnnmnklaaGreat
open Go.RowKit Go.Shelf Go.Maps Lvl Trm Env
namespace Env
def ClsPost (n : Nat) (cs : List Value) (w : World) (y : Ending) (w' : World) : Prop := ∃ v',y = .returned v' ∧ w'.ownsRow w.heap.size 9 1 v' n cs ∧ Below w.heap.size w w'
end Env
theorem CloneS_any {B : Nat} {w : World} {v : Value} {n : Nat} {cs : List Value} (h : w.ownsRow B 9 1 v n cs) (h1 : ∀ u ∈ cs,u.oneCell' = true) (hn : n ≤ 4096) : Calls Tryz.prog 55 #[v] w (ClsPost n cs w) := by
 have q22 : ∀ (w : World) (a : Option Addr) (n c n' c' : Nat),(binOp .eql 36 (.slice a n c) (.slice none n' c')).run Tryz.prog w = .ok (.bool a.isNone) w := fun w a n c n' c' => Lib.run_eql_slice_nil w _ _ a n c n' c' Tryz.underlying36
 rcases h.2 with ⟨hv,h0⟩ | ⟨g,cap,cur,hv,hbg,hg,rest⟩
 ·have hl : cs = [] := List.length_eq_zero_iff.1 (by have := h.1; omega)
  have HPO : Hid (ClsPost n cs w (.returned (.slice none 0 0)) w) := hid ⟨_,rfl,⟨h.1,Or.inl ⟨rfl,h0⟩⟩,Below.refl _ _⟩
  subst hv
  clear h h1 hn h0 hl
  go_enter Tryz.func55,Tryz.ntmps55
  go_wp2_with fail
  go_ret
  exact HPO.out
 ·obtain ⟨i0,hi,hz0,hz1,hz2⟩ := info_parts infoStr
  subst hv
  have HC : Hid (∀ j u,cs[j]? = some u → w.cell? ((⟨g,0,none⟩ : Addr).add j) = some u) := hid (fun j u hj => h.cells (g := g) rfl j u hj)
  have hlen : cs.length = n * 1 := h.1
  have HLEN := hid hlen
  have H1 := hid h1
  have HN := hid hn
  clear h h1 hn rest hg hbg hlen
  go_enter Tryz.func55,Tryz.ntmps55
  go_wp2_with (at_builtin; refine wpList_append_own _ rfl _ _ 36 rfl w.heap.size 9 i0 _ 1 16 Tryz.underlying36 hi hz0 hz1 hz2 rfl (by decide) _ _ _ rfl (World.ownsRow_made w #[] 0 (Nat.le_refl _) (Nat.zero_le _) (by simp)) ⟨g,0,none⟩ n cap cs rfl ?c1 ?c2 ?c3 ?c4 ?c5 ?c6 ?_)
  case c1 => exact HLEN.out
  case c2 =>
   intro j u hj
   exact Lib.cell?_alloc_some _ (HC.out j u hj)
  case c3 => exact H1.out
  case c4 => unfold maxLen; have := HN.out; omega
  case c5 => have := HN.out; omega
  case c6 => simp
  intro v' w1 hown hgrow hnil
  have ho0 : (w.alloc (.cells #[] 9)).ownsRow w.heap.size 9 1 (.slice (some ⟨w.heap.size,0,none⟩) 0 0) 0 [] := World.ownsRow_made w #[] 0 (Nat.le_refl _) (Nat.zero_le _) (by simp)
  have hbel := (below_one w (.cells #[] 9)).trans (below_own ho0 hgrow (by simp))
  have HPO : Hid (ClsPost n cs w (.returned v') w1) := hid ⟨_,rfl,by simpa using hown,hbel⟩
  obtain ⟨ro',rc',hv⟩ := row_slice hown
  subst hv
  clear ho0 hgrow hnil hown hbel
  go_wp2_with fail
  go_ret
  exact HPO.out
theorem list_any {B : Nat} {w : World} {e : Nat} {L : List Ent} {mo : Option Nat} {v : Value} (h : EnvB B w e L mo v) :
 Calls Tryz.prog 18 #[.pointer (some ⟨e,0,none⟩)] w (ClsPost L.length (L.map fun p => .string p.2.1.name) w) := by
 have HC := hid (CloneS_any h.row (fun u hu => by obtain ⟨p,_,rfl⟩ := List.mem_map.1 hu; rfl) h.few)
 obtain ⟨ao,cp,hv⟩ := row_slice h.row
 have hbox := h.box
 subst hv
 have c1 : w.cell? ⟨e,1,none⟩ = some (.slice ao L.length cp) := by simp [World.cell?,hbox]
 clear h hbox
 go_enter Tryz.func18,Tryz.ntmps18
 go_wp2_with fail
 refine HC.out.mono ?_
 rintro y w1 ⟨v',rfl,hrow,b1⟩
 have HEND := hid (show ClsPost L.length (L.map fun p => .string p.2.1.name) w (.returned v') w1 from ⟨v',rfl,hrow,b1⟩)
 clear hrow b1
 go_wp2_with fail
 go_ret
 exact HEND.out
end Go.Proofs.YtiekbhlnnmnklaaGreat
namespace Go.Proofs.YtiekbhlnnmnklaaGreat
open Go.RowKit Go.Shelf Go.Maps Lvl Trm Env
theorem CloneM_any {w : World} {mo : Option Nat} {L : List Ent} (h : MapE w mo L) : Calls Tryz.prog 56 #[.map mo] w (fun y w' => ∃ mo',y = .returned (.map mo') ∧ MapE w' mo' L ∧ Below w.heap.size w w' ∧ ∀ q,mo' = some q → w.heap.size ≤ q ∧ q < w'.heap.size) := by
 have qn := fun (w : World) => eqlNilE w
 have qs := fun (bm : Nat) (w : World) => eqlSomeE bm w
 rcases h with ⟨rfl,rfl⟩ | ⟨m,D,rfl,hown,ht⟩
 ·have HPO : Hid (∃ mo',(Ending.returned (.map none)) = .returned (.map mo') ∧ MapE w mo' [] ∧ Below w.heap.size w w ∧ ∀ q,mo' = some q → w.heap.size ≤ q ∧ q < w.heap.size) := hid ⟨none,rfl,Or.inl ⟨rfl,rfl⟩,Below.refl _ _,fun q hq => by cases hq⟩
  go_enter Tryz.func56,Tryz.ntmps56
  go_wp2_with fail
  go_ret
  exact HPO.out
 ·obtain ⟨es,clock,hb,F,hs,hD⟩ := hown
  have hlt := (Array.getElem?_eq_some_iff.1 hb).1
  have hB := below_one w (.map es clock)
  have HPO : Hid (∃ mo',(Ending.returned (.map (some w.heap.size))) = .returned (.map mo') ∧ MapE (w.alloc (.map es clock)) mo' L ∧ Below w.heap.size w (w.alloc (.map es clock)) ∧ ∀ q,mo' = some q → w.heap.size ≤ q ∧ q < (w.alloc (.map es clock)).heap.size) := hid ⟨some w.heap.size,rfl,Or.inr ⟨w.heap.size,D,rfl,⟨es,clock,World.alloc_heap_new _ _,F,hs,hD⟩,ht⟩,hB,fun q hq => by injection hq with hq; rw [World.size_alloc]; omega⟩
  have HBK := hid hb
  clear hb F hs hD ht hlt hB
  go_enter Tryz.func56,Tryz.ntmps56
  go_wp2_with fail
  rw [run_callFunc_extern Tryz.func97 (by kernel_rfl) (by kernel_rfl) (by kernel_rfl) (e := Extern.MapsClone.clone) (by kernel_rfl),run_maps_clone_sl w 97 HBK.out]
  simp only [Result.andThen]
  rw [Oper.upon_value]
  go_wp2_with fail
  rw [run_typeAssert_map_sl _ 97 _ _ _ _ Tryz.underlying97]
  simp only [Result.andThen]
  rw [Oper.upon_value]
  go_wp2_with fail
  go_ret
  exact HPO.out
namespace Env
theorem EnvB.copy {B : Nat} {w W : World} {e e' : Nat} {L : List Ent} {mo mo' : Option Nat} {v v' : Value} (h : EnvB B w e L mo v) (hb : Below w.heap.size w W) (he : w.heap.size ≤ e') (hbox : W.heap[e']? = some (.cells #[.map mo',v'] 99)) (hrow : W.ownsRow w.heap.size 9 1 v' L.length (L.map fun p => .string p.2.1.name)) (hmap : MapE W mo' L)
 (hm : ∀ q,mo' = some q → w.heap.size ≤ q ∧ q ≠ e') (hv : ∀ q,v'.ownBlock = some q → q ≠ e' ∧ mo' ≠ some q) : EnvB w.heap.size W e' L mo' v' := by
 have hown : ∀ q,ownE e' v' mo' q → w.heap.size ≤ q := by
  rintro q (hq | hq | hq)
  ·omega
  ·exact (hrow.lt q hq).1
  ·exact (hm q hq).1
 exact ⟨hbox,hrow,hmap,fun p hp => ⟨((h.below hb).info p hp).1,fun a => by have := hown _ a; have := (h.info p hp).1.lt; omega⟩,
  fun p hp => (h.firm p hp).turn (RanS.of_below hb) (fun q hq => Or.inr (hown q hq)),h.nodup,⟨fun a => (hv _ a).1 rfl,fun a => (hm _ a).2 rfl,fun q hq => (hv q hq).2⟩,he,h.hgt,h.few⟩
end Env
end Go.Proofs.YtiekbhlnnmnklaaGreat
namespace Go.Proofs.YtiekbhlnnmnklaaGreat
open Go.RowKit Go.Shelf Go.Maps Lvl Trm Env
namespace Env
def WithPost (P : Nat → Prop) (L : List Ent) (w : World) (l : List Inf) (y : Ending) (W : World) : Prop :=
 Below w.heap.size w W ∧ ((∃ f,y = .returned (.tuple #[.pointer none,.int .i64 f]) ∧ ((4096 < L.length + l.length ∧ f = 4) ∨ (L.length + l.length ≤ 4096 ∧ wrongL L l ≠ 0 ∧ f = wrongL L l))) ∨
  (L.length + l.length ≤ 4096 ∧ wrongL L l = 0 ∧ ∃ e' M mo' v',y = .returned (.tuple #[.pointer (some ⟨e',0,none⟩),.int .i64 0]) ∧ Added L l M ∧ EnvB w.heap.size W e' M mo' v' ∧ (∀ q,ownE e' v' mo' q → w.heap.size ≤ q) ∧ (∀ p ∈ M,p ∈ L ∨ (w.heap.size ≤ p.1 ∧ FirmI (fun q => P q ∨ ownE e' v' mo' q) W p.2.1 p.2.2))))
theorem row_base {w : World} {base base' : Nat} {e : TypeId} {size : Nat} {v : Value} {n : Nat} {xs : List Value} (h : w.ownsRow base e size v n xs) (hb : base' ≤ base) : w.ownsRow base' e size v n xs :=
 ⟨h.1,h.2.imp id fun ⟨g,cap,cur,a,b,c⟩ => ⟨g,cap,cur,a,Nat.le_trans hb b,c⟩⟩
theorem with_of {P P4 : Nat → Prop} {L : List Ent} {w W4 : World} {l : List Inf} {e' : Nat} {mo' : Option Nat} {v' : Value} {y : Ending} {W : World} (hb : Below w.heap.size w W4) (ho : ∀ q,ownE e' v' mo' q → w.heap.size ≤ q) (hPP : ∀ q,P q → P4 q) (h : AddPost P4 w.heap.size e' L mo' v' W4 l y W) :
 (∃ f : Int,y = .returned (.int .i64 f) ∧ f ≠ 0 ∧ WithPost P L w l (.returned (.tuple #[.pointer none,.int .i64 f])) W) ∨ (y = .returned (.int .i64 0) ∧ WithPost P L w l (.returned (.tuple #[.pointer (some ⟨e',0,none⟩),.int .i64 0])) W) := by
 rcases h with ⟨h1,rfl,b⟩ | ⟨h1,h2,rfl,b⟩ | ⟨h1,h2,rfl,M,mo2,v2,h3,h4,h5,h6,h7⟩
 ·exact Or.inl ⟨4,rfl,by decide,Trm.go hb b,Or.inl ⟨4,rfl,Or.inl ⟨h1,rfl⟩⟩⟩
 ·exact Or.inl ⟨_,rfl,h2,Trm.go hb b,Or.inl ⟨_,rfl,Or.inr ⟨h1,h2,rfl⟩⟩⟩
 ·exact Or.inr ⟨rfl,hb.trans (h6.below ho hb.size),Or.inr ⟨h1,h2,e',M,mo2,v2,rfl,h3,h4,fun q hq => by rcases h5 q hq with a | a; exact ho q a; exact Nat.le_trans hb.size a,fun p hp => (h7 p hp).imp id (fun a => ⟨Nat.le_trans hb.size a.1,a.2.turn (RanS.refl _ _) (fun q b => Or.inl (b.imp (hPP q) id))⟩)⟩⟩
end Env
theorem withE_any {P : Nat → Prop} {B : Nat} {w : World} {e : Nat} {L : List Ent} {mo : Option Nat} {v : Value} (h : EnvB B w e L mo v) (l : List Inf) (lo : Option Addr) (lc : Nat) (hPl : ∀ q,P q → q < w.heap.size) (hr : InfFirm P w lo l) (hl : l.length ≤ 1000000) (hrs : ∀ x ∈ l,x.rules.length ≤ 1000) :
 Calls Tryz.prog 19 #[.pointer (some ⟨e,0,none⟩),.slice lo l.length lc] w (WithPost P L w l) := by
 obtain ⟨ao,cp,hv⟩ := row_slice h.row
 have hbox := h.box
 have HENV := hid h
 subst hv
 have c0 : w.cell? ⟨e,0,none⟩ = some (.map mo) := by simp [World.cell?,hbox]
 have c1 : w.cell? ⟨e,1,none⟩ = some (.slice ao L.length cp) := by simp [World.cell?,hbox]
 have HR0 := hid hr
 have HL0 := hid hl
 have HPL := hid hPl
 clear hPl
 have HRS0 := hid hrs
 clear h hbox hr hl hrs
 obtain ⟨Q,hQ⟩ : ∃ Q,Q = WithPost P L w l := ⟨_,rfl⟩
 rw [← hQ]
 have HQD := hid hQ
 clear hQ
 go_enter Tryz.func19,Tryz.ntmps19
 go_wp2_with fail
 have HBD := hid (show Below w.heap.size w w.drew from (Below.refl _ _).drew)
 refine wp_region_held_drew (S := fun w' => w'.cell? ⟨e,0,none⟩ = some (.map mo) ∧ w'.cell? ⟨e,1,none⟩ = some (.slice ao L.length cp)) (by kernel_rfl) (⟨c0,c1⟩) (fun hHeld => ?_)
 refine wpAnyH_take (i := 0) (v := ?vwi0) rfl (by kernel_rfl) (by kernel_rfl) (by kernel_rfl) (fun _ _ _ h => h) (Or.inl ⟨by rfl,?hywi0⟩) (by assumption) ?restwi0
 case hywi0 => (intro w hSw; (try dsimp only at hSw); go_simp <;> with_reducible rfl)
 try simp only [zqT,zqZ,Act.put,zqB,zq0,zq1]
 refine wpAnyH_take (i := 1) (v := ?vwi1) rfl (by kernel_rfl) (by kernel_rfl) (by kernel_rfl) (fun _ _ _ h => h) (Or.inl ⟨by rfl,?hywi1⟩) (by assumption) ?restwi1
 case hywi1 => (intro w hSw; (try dsimp only at hSw); go_simp <;> with_reducible rfl)
 try simp only [zqT,zqS,zqZ,Act.put,zqB,zq0,zq1]
 refine wpAnyH_take (i := 2) (v := ?vwi2) rfl (by kernel_rfl) (by kernel_rfl) (by kernel_rfl) (fun _ _ _ h => h) (Or.inl ⟨by rfl,?hywi2⟩) (by assumption) ?restwi2
 case hywi2 => (intro w hSw; (try dsimp only at hSw); go_simp <;> with_reducible rfl)
 try simp only [zqT,zqS,zqZ,Act.put,zqB,zq0,zq1]
 refine wpAnyH_take (i := 3) (v := ?vwi3) rfl (by kernel_rfl) (by kernel_rfl) (by kernel_rfl) (fun _ _ _ h => h) (Or.inl ⟨by rfl,?hywi3⟩) (by assumption) ?restwi3
 case hywi3 => (intro w hSw; (try dsimp only at hSw); go_simp <;> with_reducible rfl)
 try simp only [zqT,zqS,zqZ,Act.put,zqB,zq0,zq1]
 refine wpAnyH_take (i := 5) (v := ?vwi5) rfl (by kernel_rfl) (by kernel_rfl) (by kernel_rfl) (fun _ _ _ h => h) (Or.inl ⟨by rfl,?hywi5⟩) (by assumption) ?restwi5
 case hywi5 => (intro w hSw; (try dsimp only at hSw); go_simp <;> with_reducible rfl)
 try simp only [zqT,zqS,zqZ,Act.put,zqB,zq0,zq1]
 refine wpAnyH_take (i := 6) (v := ?vwi6) rfl (by kernel_rfl) (by kernel_rfl) (by kernel_rfl) (fun _ _ _ h => h) (Or.inl ⟨by rfl,?hywi6⟩) (by assumption) ?restwi6
 case hywi6 => (intro w hSw; (try dsimp only at hSw); go_simp <;> with_reducible rfl)
 try simp only [zqT,zqS,zqZ,Act.put,zqB,zq0,zq1]
 refine wpAnyH_take (i := 7) (v := ?vwi7) rfl (by kernel_rfl) (by kernel_rfl) (by kernel_rfl) (fun _ _ _ h => h) (Or.inl ⟨by rfl,?hywi7⟩) (by assumption) ?restwi7
 case hywi7 => (intro w hSw; (try dsimp only at hSw); go_simp <;> with_reducible rfl)
 try simp only [zqT,zqS,zqZ,Act.put,zqB,zq0,zq1]
 refine wpAnyH_take (i := 8) (v := ?vwi8) rfl (by kernel_rfl) (by kernel_rfl) (by kernel_rfl) (fun _ _ _ h => h) (Or.inl ⟨by rfl,?hywi8⟩) (by assumption) ?restwi8
 case hywi8 => (intro w hSw; (try dsimp only at hSw); go_simp <;> with_reducible rfl)
 try simp only [zqT,zqS,zqZ,Act.put,zqB,zq0,zq1]
 refine wpAnyH_ready (rs := [4]) (by kernel_rfl) (by simp) ?_
 refine AllReadyH.cons rfl (fun K hK => ?_) AllReadyH.nil
 go_simp
 refine (CloneM_any (HENV.out.below HBD.out).map).mono ?_
 rintro y w2 ⟨mo',rfl,hm2,b2,hq2⟩
 have HM2 := hid hm2
 have HQ2 := hid hq2
 have HB2 := hid (Trm.go HBD.out b2)
 have HBX2 := hid (HENV.out.below HB2.out).box
 clear hm2 b2 hq2
 refine hK.out _ _ (⟨by simp [World.cell?,HBX2.out],by simp [World.cell?,HBX2.out]⟩) (fun hHeld => ?_)
 clear hK K
 try simp only [zqT,zqS,zqZ,Act.put,zqB,zq0,zq1]
 refine wpAnyH_ready (rs := [9]) (by kernel_rfl) (by simp) ?_
 refine AllReadyH.cons rfl (fun K hK => ?_) AllReadyH.nil
 go_simp
 refine (CloneS_any (HENV.out.below HB2.out).row (fun u hu => by obtain ⟨p,_,rfl⟩ := List.mem_map.1 hu; rfl) HENV.out.few).mono ?_
 rintro y w3 ⟨v',rfl,hr3,b3⟩
 obtain ⟨ao',cp',hv3⟩ := row_slice hr3
 subst hv3
 have HR3 := hid hr3
 have HB3 := hid (Trm.go HB2.out b3)
 have HBX3 := hid (HENV.out.below HB3.out).box
 have HB23 := hid b3
 clear hr3 b3
 refine hK.out _ _ (⟨by simp [World.cell?,HBX3.out],by simp [World.cell?,HBX3.out]⟩) (fun hHeld => ?_)
 clear hK K
 try simp only [zqT,zqS,zqZ,Act.put,zqB,zq0,zq1]
 refine wpAnyH_take (i := 10) (v := ?vwi10) rfl (by kernel_rfl) (by kernel_rfl) (by kernel_rfl) (fun _ _ _ h => h) (Or.inl ⟨by rfl,?hywi10⟩) (by assumption) ?restwi10
 case hywi10 => (intro w hSw; (try dsimp only at hSw); go_simp <;> with_reducible rfl)
 try simp only [zqT,zqS,zqZ,Act.put,zqB,zq0,zq1]
 refine wpAnyH_ready (rs := [11]) (by kernel_rfl) (by simp) ?_
 refine AllReadyH.cons rfl (fun K hK => ?_) AllReadyH.nil
 go_simp
 refine hK.out _ _ (⟨by have hb := (HENV.out.below (Trm.go HB3.out (below_one w3 (.cells #[.map mo',.slice ao' L.length cp'] 99)))).box; simp [World.cell?,hb],by have hb := (HENV.out.below (Trm.go HB3.out (below_one w3 (.cells #[.map mo',.slice ao' L.length cp'] 99)))).box; simp [World.cell?,hb]⟩) (fun hHeld => ?_)
 clear hK K
 try simp only [zqT,zqS,zqZ,Act.put,zqB,zq0,zq1]
 refine wpAnyH_take (i := 12) (v := ?vwi12) rfl (by kernel_rfl) (by kernel_rfl) (by kernel_rfl) (fun _ _ _ h => h) (Or.inl ⟨by rfl,?hywi12⟩) (by assumption) ?restwi12
 case hywi12 => (intro w hSw; (try dsimp only at hSw); go_simp <;> with_reducible rfl)
 try simp only [zqT,zqS,zqZ,Act.put,zqB,zq0,zq1]
 refine wpAnyH_done (by kernel_rfl) ?_ _
 obtain ⟨W4,hW4⟩ : ∃ W4,W4 = w3.alloc (.cells #[.map mo',.slice ao' L.length cp'] 99) := ⟨_,rfl⟩
 have HB34 := hid (show Below w3.heap.size w3 W4 from hW4 ▸ below_one _ _)
 have HB4 := hid (Trm.go HB3.out HB34.out)
 have HB24 := hid (Trm.go HB23.out HB34.out)
 have HBOX4 : Hid (W4.heap[w3.heap.size]? = some (.cells #[.map mo',.slice ao' L.length cp'] 99)) := hid (hW4 ▸ World.alloc_heap_new _ _)
 have HS := hid (show w.heap.size ≤ w2.heap.size ∧ w2.heap.size ≤ w3.heap.size from ⟨HB2.out.size,HB23.out.size⟩)
 have HMQ : Hid (∀ q,mo' = some q → w.heap.size ≤ q ∧ q < w2.heap.size) := hid (fun q hq => HQ2.out q hq)
 have HE4 : Hid (EnvB w.heap.size W4 w3.heap.size L mo' (.slice ao' L.length cp')) := hid (HENV.out.copy HB4.out (by have := HS.out; omega) HBOX4.out (row_base (row_same HR3.out (fun q hq => HB34.out.block q (HR3.out.lt q hq).2)) HS.out.1) (HM2.out.below HB24.out) (fun q hq => ⟨(HMQ.out q hq).1,by have := (HMQ.out q hq).2; have := HS.out; omega⟩)
  (fun q hq => ⟨by have := (HR3.out.lt q hq).2; omega,fun a => by have := (HR3.out.lt q hq).1; have := (HMQ.out q a).2; omega⟩))
 have HO4 : Hid (∀ q,ownE w3.heap.size (.slice ao' L.length cp') mo' q → w.heap.size ≤ q) := hid (by
  rintro q (hq | hq | hq)
  ·have := HS.out; omega
  ·have := (HR3.out.lt q hq).1; have := HS.out; omega
  ·exact (HMQ.out q hq).1)
 have HADD := hid (add_any (P := fun q => P q ∨ ownE w3.heap.size (.slice ao' L.length cp') mo' q) HE4.out l lo lc (fun q a => Or.inr a) (fun q a => by
  rcases a with a | a
  ·have := HPL.out q a; have := HB4.out.size; omega
  ·exact HE4.out.own_lt q a) (HR0.out.turn (RanS.of_below HB4.out) (fun q a => a.imp id (HO4.out q))) HL0.out HRS0.out)
 clear hHeld c0 c1
 rw [← hW4]
 clear hW4
 go_wp2_with fail
 refine HADD.out.mono ?_
 intro y W5 hpost
 rcases with_of (P := P) HB4.out HO4.out (fun q a => Or.inl a) hpost with ⟨f,rfl,hf,hp⟩ | ⟨rfl,hp⟩
 ·have HP : Hid (Q (.returned (.tuple #[.pointer none,.int .i64 f])) W5) := hid (by rw [HQD.out]; exact hp)
  have hf1 : (f == 0) = false := by simpa using hf
  have hf2 : (f != 0) = true := by simpa using hf
  clear hp hf hpost
  go_wp2_with fail
  exact HP.out
 ·have HP : Hid (Q (.returned (.tuple #[.pointer (some ⟨w3.heap.size,0,none⟩),.int .i64 0])) W5) := hid (by rw [HQD.out]; exact hp)
  clear hp hpost
  go_wp2_with fail
  exact HP.out
end Go.Proofs.YtiekbhlnnmnklaaGreat
namespace Go.Proofs.YtiekbhlnnmnklaaGreat
open Go.RowKit Go.Shelf Go.Maps Lvl Trm Env
namespace Env
structure Step (P P' : Nat → Prop) (W W' : World) : Prop where
 ran : RanS P W W'
 own : ∀ q,P' q → P q ∨ W.heap.size ≤ q
 wide : ∀ q,P q → P' q
theorem Step.refl (P : Nat → Prop) (W : World) : Step P P W W := ⟨RanS.refl _ _,fun _ a => Or.inl a,fun _ a => a⟩
theorem Step.of_below {P : Nat → Prop} {W W' : World} (b : Below W.heap.size W W') : Step P P W W' := ⟨RanS.of_below b,fun _ a => Or.inl a,fun _ a => a⟩
theorem Step.trans {P P' P2 : Nat → Prop} {W W' W2 : World} (h : Step P P' W W') (k : Step P' P2 W' W2) : Step P P2 W W2 :=
 ⟨ran_goE h.ran k.ran h.own,fun q hq => by
  rcases k.own q hq with a | a
  ·exact h.own q a
  ·exact Or.inr (Nat.le_trans h.ran.size a),fun q a => k.wide q (h.wide q a)⟩
theorem Step.term {P P' : Nat → Prop} {W W' : World} (s : Step P P' W W') {t : Tm} {h : Hd} (f : FirmS P W t h) : FirmS P' W' t h := firm_turnE f s.ran s.own
theorem Step.inf {P P' : Nat → Prop} {W W' : World} (s : Step P P' W W') {x : Inf} {h : IHd} (f : FirmI P W x h) : FirmI P' W' x h := f.turn s.ran s.own
theorem Step.infs {P P' : Nat → Prop} {W W' : World} (s : Step P P' W W') {lo : Option Addr} {l : List Inf} (f : InfFirm P W lo l) : InfFirm P' W' lo l := f.turn s.ran s.own
theorem Step.size {P P' : Nat → Prop} {W W' : World} (s : Step P P' W W') : W.heap.size ≤ W'.heap.size := s.ran.size
theorem Step.block {P P' : Nat → Prop} {W W' : World} (s : Step P P' W W') {b : Nat} {o : Obj} (hb : W.heap[b]? = some o) (hn : ¬ P b) : W'.heap[b]? = some o ∧ ¬ P' b :=
 ⟨s.ran.keep hb hn,fun a => by
  rcases s.own b a with c | c
  ·exact hn c
  ·have := (Array.getElem?_eq_some_iff.1 hb).1; omega⟩
structure EnvP (P : Nat → Prop) (B : Nat) (w : World) (e : Nat) (L : List Ent) (mo : Option Nat) (v : Value) : Prop where
 env : EnvB B w e L mo v
 own : ∀ q,ownE e v mo q → P q
 lt : ∀ q,P q → q < w.heap.size
 ent : ∀ p ∈ L,¬ P p.1 ∧ FirmI P w p.2.1 p.2.2
theorem EnvP.of {B : Nat} {w : World} {e : Nat} {L : List Ent} {mo : Option Nat} {v : Value} (h : EnvB B w e L mo v) : EnvP (ownE e v mo) B w e L mo v :=
 ⟨h,fun _ a => a,h.own_lt,fun p hp => ⟨(h.info p hp).2,h.firm p hp⟩⟩
theorem EnvP.below {P : Nat → Prop} {B : Nat} {w w' : World} {e : Nat} {L : List Ent} {mo : Option Nat} {v : Value} (h : EnvP P B w e L mo v) (b : Below w.heap.size w w') : EnvP P B w' e L mo v :=
 ⟨h.env.below b,h.own,fun q a => Nat.lt_of_lt_of_le (h.lt q a) b.size,fun p hp => ⟨(h.ent p hp).1,(h.ent p hp).2.step (RanS.of_below b)⟩⟩
noncomputable def addA (L : List Ent) (l : List Inf) : Int := if 4096 < L.length + l.length then 4 else wrongL L l
def AddTo (L : List Ent) (l : List Inf) (M : List Ent) : Prop := (addA L l = 0 ∧ Added L l M) ∨ (addA L l ≠ 0 ∧ M = L)
def AddP (P : Nat → Prop) (B e : Nat) (L : List Ent) (mo : Option Nat) (v : Value) (w : World) (l : List Inf) (y : Ending) (W : World) : Prop :=
 y = .returned (.int .i64 (addA L l)) ∧ ∃ M mo' v' P',AddTo L l M ∧ EnvP P' B W e M mo' v' ∧ Step P P' w W ∧ RanS (ownE e v mo) w W ∧ (∀ q,ownE e v' mo' q → ownE e v mo q ∨ w.heap.size ≤ q) ∧ (∀ q,P' q → P q ∨ ownE e v' mo' q)
theorem AddP.of {P : Nat → Prop} {B : Nat} {w : World} {e : Nat} {L : List Ent} {mo : Option Nat} {v : Value} {l : List Inf} {y : Ending} {W : World} (h : EnvP P B w e L mo v) (a : AddPost P B e L mo v w l y W) : AddP P B e L mo v w l y W := by
 rcases a with ⟨h1,rfl,b⟩ | ⟨h1,h2,rfl,b⟩ | ⟨h1,h2,rfl,M,mo',v',h3,h4,h5,h6,h7⟩
 ·have hA : addA L l = 4 := by unfold addA; rw [if_pos h1]
  exact ⟨by rw [hA],L,mo,v,P,Or.inr ⟨by rw [hA]; decide,rfl⟩,h.below b,Step.of_below b,RanS.of_below b,fun _ a => Or.inl a,fun _ a => Or.inl a⟩
 ·have hA : addA L l = wrongL L l := by unfold addA; rw [if_neg (by omega)]
  exact ⟨by rw [hA],L,mo,v,P,Or.inr ⟨by rw [hA]; exact h2,rfl⟩,h.below b,Step.of_below b,RanS.of_below b,fun _ a => Or.inl a,fun _ a => Or.inl a⟩
 ·have hA : addA L l = 0 := by unfold addA; rw [if_neg (by omega),h2]
  have hran : RanS P w W := h6.wide h.own
  refine ⟨by rw [hA],M,mo',v',fun q => P q ∨ ownE e v' mo' q,Or.inl ⟨hA,h3⟩,⟨h4,fun _ a => Or.inr a,fun q a => ?_,fun p hp => ?_⟩,⟨hran,fun q a => ?_,fun _ a => Or.inl a⟩,h6,h5,fun _ a => a⟩
  ·rcases a with a | a
   ·exact Nat.lt_of_lt_of_le (h.lt q a) h6.size
   ·exact h4.own_lt q a
  ·rcases h7 p hp with a | ⟨a,b⟩
   ·refine ⟨fun c => ?_,(h.ent p a).2.turn hran (fun q c => c.elim Or.inl (fun d => (h5 q d).imp (h.own q) id))⟩
    rcases c with c | c
    ·exact (h.ent p a).1 c
    ·exact (h4.info p hp).2 c
   ·refine ⟨fun c => ?_,b⟩
    rcases c with c | c
    ·have := h.lt _ c; omega
    ·exact (h4.info p hp).2 c
  ·exact a.elim Or.inl (fun d => (h5 q d).imp (h.own q) id)
theorem addP_any {P : Nat → Prop} {B : Nat} {w : World} {e : Nat} {L : List Ent} {mo : Option Nat} {v : Value} (h : EnvP P B w e L mo v) (l : List Inf) (lo : Option Addr) (lc : Nat) (hr : InfFirm P w lo l) (hl : l.length ≤ 1000000) (hrs : ∀ x ∈ l,x.rules.length ≤ 1000) :
 Calls Tryz.prog 20 #[.pointer (some ⟨e,0,none⟩),.slice lo l.length lc] w (AddP P B e L mo v w l) :=
 (add_any h.env l lo lc h.own h.lt hr hl hrs).mono fun _ _ a => AddP.of h a
theorem EnvP.other {P R P' : Nat → Prop} {B : Nat} {w w' : World} {e : Nat} {L : List Ent} {mo : Option Nat} {v : Value} (h : EnvP P B w e L mo v) (hr : RanS R w w') (hR : ∀ q,R q → P q) (hne : ∀ q,ownE e v mo q → ¬ R q) (hP : ∀ q,P' q → P q ∨ w.heap.size ≤ q) (hw : ∀ q,P q → P' q) (hl : ∀ q,P' q → q < w'.heap.size) : EnvP P' B w' e L mo v := by
 have hrP : RanS P w w' := hr.wide hR
 refine ⟨⟨hr.keep h.env.box (hne e (Or.inl rfl)),row_same h.env.row (fun q hq => hr.block q (h.env.row.lt q hq).2 (hne q (Or.inr (Or.inl hq)))),?_,fun p hp => ?_,fun p hp => ?_,h.env.nodup,h.env.apart,h.env.eB,h.env.hgt,h.env.few⟩,fun q a => hw q (h.own q a),hl,fun p hp => ?_⟩
 ·rcases h.env.map with a | ⟨m,D,hm,hown,ht⟩
  ·exact Or.inl a
  ·exact Or.inr ⟨m,D,hm,⟨hown.choose,hown.choose_spec.choose,(hr.block m hown.lt (hne m (Or.inr (Or.inr hm)))).trans hown.choose_spec.choose_spec.1,hown.choose_spec.choose_spec.2⟩,ht⟩
 ·obtain ⟨h1,h2⟩ := h.env.info p hp
  exact ⟨hr.keep h1 (fun a => (h.ent p hp).1 (hR _ a)),h2⟩
 ·exact (h.ent p hp).2.turn hrP (fun q a => Or.inl (h.own q a))
 ·refine ⟨fun a => ?_,(h.ent p hp).2.turn hrP hP⟩
  rcases hP _ a with b | b
  ·exact (h.ent p hp).1 b
  ·have := (h.env.info p hp).1.lt; omega
end Env
end Go.Proofs.YtiekbhlnnmnklaaGreat
