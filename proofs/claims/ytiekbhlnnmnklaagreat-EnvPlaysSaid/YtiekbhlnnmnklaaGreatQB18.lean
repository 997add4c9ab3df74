/-
 env.params,open.
-/
import Derived.Lib.Hide
import Derived.Test.YtiekbhlnnmnklaaGreatQB7
import Derived.Test.YtiekbhlnnmnklaaGreatQB15
import Derived.Test.YtiekbhlnnmnklaaGreatQB17
import Derived.Test.YtiekbhlnnmnklaaGreatQB6
import Derived.Maps.OwnSet
import Derived.Sort.KeysCollected
import Derived.Deep.RegionHeld3
import Derived.Test.YtiekbhlnnmnklaaGreatQB5
import Derived.Test.YtiekbhlnnmnklaaGreatQB2
import Derived.Test.YtiekbhlnnmnklaaGreatQB13
import Derived.Test.YtiekbhlnnmnklaaGreatProg
import Derived.Great.Walk
import Derived.Laws.Rows
open Go.Lib (hid)
set_option maxRecDepth 100000
set_option maxHeartbeats 32000000
namespace Go.Proofs.YtiekbhlnnmnklaaGreat
open Go.RowKit Go.Shelf Lvl Trm Env
namespace Env
def parL (n : Nat) : List Lv := (List.range n).map fun i : Nat => (param (i : Int)).1
theorem parL_len (n : Nat) : (parL n).length = n := by simp [parL]
theorem parL_succ (n : Nat) : parL (n + 1) = parL n ++ [(param (n : Int)).1] := by simp [parL,List.range_succ]
def ParPost (n : Nat) (w : World) (e : Ending) (w' : World) : Prop := ∃ g,e = .returned (.slice (some ⟨g,0,none⟩) n n) ∧ LRow w' (some ⟨g,0,none⟩) (parL n) ∧ w.heap.size ≤ g ∧ g < w'.heap.size ∧ Below w.heap.size w w'
def ParRel (w : World) (n : Nat) (i : Value) (wr : World) : Prop := ∃ k : Nat,i = .int .i64 k ∧ k ≤ n ∧ LBlk wr w.heap.size n (parL k) ∧ Below w.heap.size w wr
end Env
theorem envParams_any (n : Nat) (hn : n ≤ 4) (w : World) : Calls Tryz.prog 153 #[.int .i64 n] w (ParPost n w) := by
 have hmk := fun W => make_levels n hn W
 have HN := hid hn
 have H0 : Hid (ParRel w n (.int .i64 (0 : Nat)) (w.alloc (zeros n))) := hid ⟨0,rfl,by omega,LBlk.made w n,below_one _ _⟩
 clear hn
 go_enter Tryz.func153,Tryz.ntmps153
 go_wp2_with fail
 go_loopw [9] (fun i wr => ParRel w n i wr) (fun i _ => n - (intOf i).toNat)
 case atStart => exact H0.out
 case round =>
  obtain ⟨k,rfl,hk,hblk,hbel⟩ := hrel
  have HBLK := hid hblk
  have HBEL := hid hbel
  clear hblk hbel H0 hmk
  by_cases hlt : k < n
  ·have HLT := hid hlt
   have HP := hid (param_any (k : Int) wr)
   have HSU := hid (parL_succ k)
   obtain ⟨x,hx⟩ : ∃ x,x = (param (k : Int)).1 := ⟨_,rfl⟩
   obtain ⟨q,hq⟩ : ∃ q,q = (param (k : Int)).2 := ⟨_,rfl⟩
   rw [← hx,← hq] at HP
   rw [← hx] at HSU
   unfold Lv.val at HP
   clear hx hq
   go_wp2_with fail
   refine HP.out.mono ?_
   rintro e w2 ⟨rfl,b2⟩
   have HB2 := hid b2
   have hL2 := HBLK.out.of_block (b2.block _ HBLK.out.lt)
   have HL2 := hid hL2
   have hl5 : k * 5 + 4 < n * 5 := by omega
   obtain ⟨v0,g0⟩ := hL2.has (i := k * 5) (by omega)
   obtain ⟨v1,g1⟩ := hL2.has (i := k * 5 + 1) (by omega)
   obtain ⟨v2,g2⟩ := hL2.has (i := k * 5 + 2) (by omega)
   obtain ⟨v3,g3⟩ := hL2.has (i := k * 5 + 3) (by omega)
   obtain ⟨v4,g4⟩ := hL2.has (i := k * 5 + 4) (by omega)
   have f0 := hL2.free (k * 5)
   have f1 := hL2.free (k * 5 + 1)
   have f2 := hL2.free (k * 5 + 2)
   have f3 := hL2.free (k * 5 + 3)
   have f4 := hL2.free (k * 5 + 4)
   have hput := hL2.put (by rw [parL_len]; exact hlt) x
   rw [parL_len,← HSU.out] at hput
   have hran := RanS.of_ran (P := fun q => q = w.heap.size) (putO_ran w2 w.heap.size (k * 5) (.int .i64 x.c) (.int .i64 x.p0) (.int .i64 x.p1) (.int .i64 x.p2) (.int .i64 x.p3)) rfl
   have hbw : Below w.heap.size w w2 := HBEL.out.trans (b2.mono HBEL.out.size)
   have hbe := hbw.trans (hran.below (fun q e => by omega) hbw.size)
   unfold putO at hbe
   have HNX : Hid (∀ z : Int,z = (k : Int) + 1 → ParRel w n (.int .i64 z) _) := hid fun z hz => ⟨k + 1,by rw [hz]; rfl,HLT.out,hput,hbe⟩
   have hwk : wrap64 ((k : Int) + 1) = (k : Int) + 1 := IntWalk.wrap64_in _ (by have := HN.out; omega)
   clear b2 hL2 hput hran hbw hbe hl5
   go_wp2_with fail
   go_roundw
   case rel => exact HNX.out _ hwk
   case measure => exact less_step hwk HLT.out
  ·have hke : k = n := by omega
   subst hke
   have HPO : Hid (ParPost k w (.returned (.slice (some ⟨w.heap.size,0,none⟩) k k)) wr) := hid ⟨_,rfl,HBLK.out.row,Nat.le_refl _,HBLK.out.lt,HBEL.out⟩
   go_wp2_with fail
   go_ret
   exact HPO.out
namespace Env
noncomputable def openE (t : Tm) (n : Nat) : Int := if t.may = true ∧ t.free ≤ 0 then (levelsAns t (parL n)).2 else 7
end Env
theorem open_any (t : Tm) (h : Hd) (n : Nat) (bo : Option Addr) (bc : Nat) (w : World) (hin : t.In w.heap.size w h) (hr : LRow w bo (parL n)) (hlo : Low w.heap.size bo n) (hbc : n ≤ bc) (hn : n ≤ 4) :
 Calls Tryz.prog 156 #[t.val h,.slice bo n bc] w fun e w' => e = .returned (.int .i64 (openE t n)) ∧ Below w.heap.size w w' := by
 obtain ⟨G,hG⟩ : ∃ G,G = openE t n := ⟨_,rfl⟩
 rw [← hG]
 have HG1 := hid (show t.may = true → t.free ≤ 0 → (levelsAns t (parL n)).2 = G from fun h1 h2 => by rw [hG,openE,if_pos ⟨h1,h2⟩])
 have HG2 := hid (show ¬ (t.may = true ∧ t.free ≤ 0) → 7 = G from fun h1 => by rw [hG,openE,if_neg h1])
 obtain ⟨WA,hWA⟩ : ∃ WA,WA = w.alloc (t.box h) := ⟨_,rfl⟩
 have HBA := hid (show Below w.heap.size w WA from hWA ▸ below_one _ _)
 have HBX := hid (show WA.heap[w.heap.size]? = some (t.box h) from hWA ▸ World.alloc_heap_new w _)
 have HM := hid (PMay_any t h WA (carry hin HBA.out))
 have HF := hid (fun (W : World) (hW : Below WA.heap.size WA W) => PFree_any t h W (carry (carry hin HBA.out) hW))
 have HL := hid (fun (W : World) (hW : Below WA.heap.size WA W) => (show Calls Tryz.prog 64 #[t.val h,.slice bo n bc] W fun e w' => ∃ h',e = .returned (.tuple #[(levelsAns t (parL n)).1.val h',.int .i64 (levelsAns t (parL n)).2]) ∧ (levelsAns t (parL n)).1.In w'.heap.size w' h' ∧ Below W.heap.size W w' from by
  have hb : Below w.heap.size w W := Trm.go HBA.out hW
  have h1 := Levels_any t h (parL n) bo bc W (carry hin hb) (hr.below hb) (by rw [parL_len]; exact Low.mono hlo hb.size) (by rw [parL_len]; omega) (by rw [parL_len]; exact hbc)
  rw [parL_len] at h1
  exact h1))
 obtain ⟨y,hy⟩ : ∃ y,y = (levelsAns t (parL n)).1 := ⟨_,rfl⟩
 obtain ⟨q,hq⟩ : ∃ q,q = (levelsAns t (parL n)).2 := ⟨_,rfl⟩
 rw [← hy,← hq] at HL
 rw [← hq] at HG1
 obtain ⟨F,hF⟩ : ∃ F,F = t.free := ⟨_,rfl⟩
 rw [← hF] at HG1 HG2 HF
 clear hy hq hF hG hin hr hlo hbc hn
 unfold Tm.val Tm.vals at *
 go_enter Tryz.func156,Tryz.ntmps156
 unfold Tm.box Tm.vals at hWA
 go_upto_region 1 with fail
 rw [← hWA]
 clear hWA
 obtain ⟨x0,x1,x2,x3,x4⟩ := Tm.cells HBX.out
 go_wp2_with fail
 refine HM.out.mono ?_
 rintro e w1 ⟨rfl,b1⟩
 have H1 := hid b1
 clear b1 HM x0 x1 x2 x3 x4
 cases hm : t.may
 ·have HE := hid (HG2.out (fun hh => by rw [hm] at hh; cases hh.1))
  have HB := hid (Trm.go HBA.out H1.out)
  clear hm
  go_wp2_with fail
  go_ret
  exact ⟨by rw [← HE.out]; rfl,HB.out⟩
 ·have HMM := hid hm
  clear hm
  obtain ⟨x0,x1,x2,x3,x4⟩ := Tm.cells (Lvl.keep H1.out HBX.out)
  go_wp2_with fail
  refine (HF.out _ H1.out).mono ?_
  rintro e w2 ⟨rfl,b2⟩
  have H2 := hid (Trm.go H1.out b2)
  clear b2 x0 x1 x2 x3 x4
  by_cases hf : 0 < F
  ·have HE := hid (HG2.out (fun hh => by have := hh.2; omega))
   have HB := hid (Trm.go HBA.out H2.out)
   go_wp2_with fail
   go_ret
   exact ⟨by rw [← HE.out]; rfl,HB.out⟩
  ·have HE := hid (HG1.out HMM.out (by omega))
   have hf2 : F ≤ 0 := by omega
   obtain ⟨x0,x1,x2,x3,x4⟩ := Tm.cells (Lvl.keep H2.out HBX.out)
   go_wp2_with fail
   refine (HL.out _ H2.out).mono ?_
   rintro e w3 ⟨h',rfl,_,b3⟩
   have HB := hid (Trm.go (Trm.go HBA.out (Trm.go H2.out b3)) (below_one w3 (.cells (y.vals h') 27)))
   unfold Tm.vals at HB
   clear b3 x0 x1 x2 x3 x4
   go_wp2_with fail
   go_ret
   exact ⟨by rw [← HE.out]; rfl,HB.out⟩
end Go.Proofs.YtiekbhlnnmnklaaGreat
namespace Go.Proofs.YtiekbhlnnmnklaaGreat
open Go.RowKit Go.Shelf Go.Maps Go.Sort Lvl Trm
namespace Trm
def oneN (s : ByteArray) : List (List UInt8) := if s.size = 0 then [] else [s.data.toList]
mutual
def Tm.nms : Tm → List (List UInt8)
 | .mk _ _ s _ ts => oneN s ++ nmsL ts
def nmsL : List Tm → List (List UInt8)
 | [] => []
 | t :: r => t.nms ++ nmsL r
end
theorem Tm.nms_eq (t : Tm) : t.nms = oneN t.s ++ nmsL t.ts := by cases t; rw [Tm.nms]; rfl
theorem nmsL_mem {x : Tm} : ∀ {ts : List Tm},x ∈ ts → ∀ y ∈ x.nms,y ∈ nmsL ts
 | t :: r,h,y,hy => by
   rw [nmsL]
   rcases List.mem_cons.1 h with rfl | h
   ·exact List.mem_append_left _ hy
   ·exact List.mem_append_right _ (nmsL_mem h y hy)
mutual
theorem nms_size : ∀ t : Tm,(t.nms.length : Int) ≤ t.size
 | .mk k n s ls ts => by
   rw [Tm.nms,Tm.size,List.length_append]
   have h1 := nmsL_size ts
   have h2 : (oneN s).length ≤ 1 := by unfold oneN; split <;> simp
   omega
theorem nmsL_size : ∀ ts : List Tm,((nmsL ts).length : Int) ≤ sizeL ts
 | [] => by rw [nmsL,sizeL]; simp
 | t :: r => by
   rw [nmsL,sizeL,List.length_append]
   have h1 := nms_size t
   have h2 := nmsL_size r
   omega
end
def seeNames (st : List (List UInt8)) (t : Tm) (_d _u : Int) : List (List UInt8) × Bool := (st ++ oneN t.s,true)
mutual
theorem Tm.walk_names : ∀ (t : Tm) (st : List (List UInt8)) (d u : Int),t.walk seeNames st d u = (st ++ t.nms,true)
 | .mk k n s ls ts,st,d,u => by
   rw [Tm.walk,Tm.nms]
   rw [if_pos (show (seeNames st (Tm.mk k n s ls ts) d u).2 = true from rfl),walkL_names k ts 0 _ (d + 1) u]
   show (st ++ oneN s ++ nmsL ts,true) = _
   rw [List.append_assoc]
theorem walkL_names (k : Int) : ∀ (ts : List Tm) (i : Nat) (st : List (List UInt8)) (d u : Int),walkL seeNames k ts i st d u = (st ++ nmsL ts,true)
 | [],i,st,d,u => by rw [walkL,nmsL,List.append_nil]
 | t :: r,i,st,d,u => by
   rw [walkL,Tm.walk_names t,nmsL]
   rw [if_pos rfl,walkL_names k r (i + 1) _ d _,List.append_assoc]
end
abbrev tru : DataW Unit := .lit (.bool true)
def DN (st : List (List UInt8)) : DataW Unit := setOf tru (st.map Lit.string)
theorem DN_snoc (st : List (List UInt8)) (x : List UInt8) : DN (st ++ [x]) = (DN st).put (.string x) tru := by
 unfold DN
 rw [List.map_append]
 exact setOf_snoc _ _ _
theorem isKey (st : List (List UInt8)) : ∀ x ∈ st.map Lit.string,WideAt.IsKeyLit x := by
 intro x hx
 obtain ⟨y,_,rfl⟩ := List.mem_map.1 hx
 trivial
theorem DN_tidy (st : List (List UInt8)) : Tidy (DN st) := tidy_setOf _ _ (isKey st)
theorem DN_has (st : List (List UInt8)) (x : List UInt8) : Maps.has (DN st) (.string x) = true ↔ x ∈ st := by
 unfold DN
 rw [has_setOf _ _ _ (isKey st),List.any_eq_true]
 constructor
 ·rintro ⟨y,hy,hs⟩
  obtain ⟨z,hz,rfl⟩ := List.mem_map.1 hy
  have := WideAt.sameKey_eq hs
  injection this with h
  rw [← h]; exact hz
 ·intro hx
  exact ⟨.string x,List.mem_map.2 ⟨x,hx,rfl⟩,WideAt.sameKey_self trivial⟩
theorem nodup_le {α : Type} [DecidableEq α] : ∀ (l m : List α),l.Nodup → (∀ x ∈ l,x ∈ m) → l.length ≤ m.length
 | [],m,_,_ => by simp
 | x :: r,m,hn,hs => by
   obtain ⟨h1,h2⟩ := List.nodup_cons.1 hn
   have h3 := nodup_le r (m.erase x) h2 (fun y hy => (List.mem_erase_of_ne (fun e => h1 (by rw [← e]; exact hy))).2 (hs y (by simp [hy])))
   have h4 := List.length_erase_of_mem (hs x (by simp))
   have h5 := List.length_pos_of_mem (hs x (by simp))
   simp only [List.length_cons]
   omega
theorem fold_keys (S : List Lit) : ∀ (acc : List Lit) (m : DataW Unit),(∃ es,m = .map es ∧ ∀ p ∈ es,p.1 ∈ S) → (∀ x ∈ acc,x ∈ S) → ∃ es,acc.foldl (fun m x => m.put x tru) m = .map es ∧ ∀ p ∈ es,p.1 ∈ S
 | [],m,h,_ => h
 | x :: r,m,h,hs => by
   rw [List.foldl_cons]
   refine fold_keys S r _ ?_ (fun y hy => hs y (by simp [hy]))
   obtain ⟨es,rfl,he⟩ := h
   refine ⟨_,rfl,fun p hp => ?_⟩
   have hp2 := (WideShapes.insert_perm (x,tru) _).mem_iff.1 hp
   rcases List.mem_cons.1 hp2 with rfl | hp2
   ·exact hs x (by simp)
   ·exact he p (List.mem_filter.1 hp2).1
theorem DN_keys (st : List (List UInt8)) : ∃ es,DN st = .map es ∧ es.Pairwise (fun p q => p.1 ≠ q.1) ∧ ∀ p ∈ es,∃ x ∈ st,p.1 = .string x := by
 obtain ⟨es,he,hp⟩ := DN_tidy st
 obtain ⟨es',he',hk⟩ := fold_keys (st.map Lit.string) (st.map Lit.string) (.map []) ⟨[],rfl,fun p hp => by cases hp⟩ (fun x hx => hx)
 have e : es = es' := by
  have h1 : DN st = .map es' := he'
  rw [he] at h1
  injection h1
 subst e
 refine ⟨es,he,hp,fun p hp' => ?_⟩
 obtain ⟨x,hx,hxe⟩ := List.mem_map.1 (hk p hp')
 exact ⟨x,hx,hxe.symm⟩
theorem DN_size {st Ns : List (List UInt8)} (h : ∀ x ∈ st,x ∈ Ns) : Maps.size (DN st) ≤ Ns.length := by
 obtain ⟨es,he,hp,hk⟩ := DN_keys st
 rw [he]
 show es.length ≤ _
 have h1 := nodup_le (es.map (fun p => strOf p.1)) Ns ?_ ?_
 ·simpa using h1
 ·refine List.pairwise_map.2 (hp.imp_of_mem fun {p q} hp' hq' hne e => hne ?_)
  obtain ⟨a,_,ha⟩ := hk p hp'
  obtain ⟨b,_,hb⟩ := hk q hq'
  rw [ha,hb] at e ⊢
  exact congrArg _ e
 ·intro x hx
  obtain ⟨p,hp',rfl⟩ := List.mem_map.1 hx
  obtain ⟨a,ha,hae⟩ := hk p hp'
  rw [hae]
  exact h a ha
theorem DN_strKeys (st : List (List UInt8)) (x : List UInt8) : x ∈ strKeys (DN st) ↔ x ∈ st := by
 obtain ⟨es,he,hp,hk⟩ := DN_keys st
 rw [← DN_has st x,he]
 show x ∈ es.map (fun p => strOf p.1) ↔ es.any (fun p => p.1.sameKey (.string x)) = true
 rw [List.any_eq_true,List.mem_map]
 constructor
 ·rintro ⟨p,hp',rfl⟩
  obtain ⟨a,_,ha⟩ := hk p hp'
  exact ⟨p,hp',by rw [ha]; exact WideAt.sameKey_self trivial⟩
 ·rintro ⟨p,hp',hs⟩
  exact ⟨p,hp',by rw [WideAt.sameKey_eq hs]; rfl⟩
theorem DN_nodup (st : List (List UInt8)) : (strKeys (DN st)).Nodup := by
 obtain ⟨es,he,hp,hk⟩ := DN_keys st
 rw [he]
 refine List.pairwise_map.2 (hp.imp_of_mem fun {p q} hp' hq' hne e => hne ?_)
 obtain ⟨a,_,ha⟩ := hk p hp'
 obtain ⟨b,_,hb⟩ := hk q hq'
 rw [ha,hb] at e ⊢
 exact congrArg _ e
def NInv (m C : Nat) (st : List (List UInt8)) (w : World) : Prop := w.ownsMap Tryz.prog 9 (plainElem Tryz.prog 4) m (Maps.size (DN st)) (DN st) ∧ w.heap[C]? = some (.cells #[.map (some m)] 163)
theorem lawS : Keyed Tryz.prog 9 := string_keyed Tryz.underlying9
theorem own_exact {w : World} {R : Value → Option (DataW Unit × List MemPlace)} {b n : Nat} {D : DataW Unit} (h : w.ownsMap Tryz.prog 9 R b n D) : w.ownsMap Tryz.prog 9 R b (Maps.size D) D := by
 obtain ⟨es,clock,hb,F,hs,rfl⟩ := h
 exact ⟨es,clock,hb,F,by simp [Maps.size,length_sorted],rfl⟩
end Trm
theorem names1_any (Ns : List (List UInt8)) (hNs : Ns.length ≤ 65536) {B m C : Nat} (hCm : C ≠ m) (st : List (List UInt8)) (t : Tm) (b o : Nat) (d u : Int) (w : World) (hg : ∀ x ∈ st,x ∈ Ns) (hi : NInv m C st w) (hat : RAt B m w b o t) :
 Calls Tryz.prog 122 #[.pointer (some ⟨b,o,none⟩),.int .i64 d,.int .i64 u,.pointer (some ⟨C,0,none⟩)] w fun e w' => e = .returned (.bool true) ∧ NInv m C (st ++ oneN t.s) w' ∧ Ran m w w' := by
 obtain ⟨hbm,hbl,hd,⟨c0,c1,c2,c3,c4⟩,hin⟩ := hat
 obtain ⟨hown,hC⟩ := hi
 have hcC := one_cell hC
 have hClt := (Array.getElem?_eq_some_iff.1 hC).1
 by_cases hs : t.s.size = 0
 ·have h1 : oneN t.s = [] := if_pos hs
  have hse : t.s = ⟨#[]⟩ := by
   cases hts : t.s with
   | mk a => rw [hts] at hs; simp [ByteArray.size] at hs; rw [hs]
  rw [h1,List.append_nil]
  rw [hse] at c2
  have HO := hid hown
  have HC := hid hC
  clear hown hC hin hs hse h1
  go_enter Tryz.func122,Tryz.ntmps122
  go_wp2_with fail
  go_ret
  exact ⟨rfl,⟨HO.out,HC.out⟩,Ran.refl _ _⟩
 ·have h1 : oneN t.s = [t.s.data.toList] := if_neg hs
  have hne : t.s.toList.isEmpty = false := by rw [empty_iff,decide_eq_false hs]
  have hkey : keyOf Tryz.prog 9 (.string t.s) = some (.string t.s.data.toList) := WideMaps.keyOf_string_mk Tryz.underlying9 (by have := hin.fit.s; unfold maxLen; omega)
  obtain ⟨w1,hrun,hown1,hgrow⟩ := (show w.drew.ownsMap Tryz.prog 9 (plainElem Tryz.prog 4) m (Maps.size (DN st)) (DN st) from hown).update lawS Tryz.underlying163 (by have := DN_size hg; unfold maxLen; omega) hkey (plainElem_bool Tryz.underlying4 true)
  have HO1 := hid (show NInv m C (st ++ oneN t.s) w1 from by
   rw [h1]
   unfold NInv
   rw [DN_snoc]
   exact ⟨own_exact hown1,(hgrow.block C hClt (fun e => hCm (by injection e))).trans hC⟩)
  have HR1 := hid (show Ran m w w1 from ⟨hgrow.os,hgrow.tape,hgrow.output,hgrow.size,fun k hk hn => hgrow.block k hk (fun e => hn (by injection e))⟩)
  have hc2 : w1.cell? ⟨b,o + 2,none⟩ = some (.string t.s) := (HR1.out.cell (p := ⟨b,o + 2,none⟩) hbl hbm).trans c2
  have hcC1 : w1.cell? ⟨C,0,none⟩ = some (.map (some m)) := (HR1.out.cell (p := ⟨C,0,none⟩) hClt hCm).trans hcC
  clear hown hC hin hs h1 hown1 hgrow hkey
  go_enter Tryz.func122,Tryz.ntmps122
  go_wp2_with fail
  go_region_held3 (fun w' => w'.cell? ⟨b,o + 2,none⟩ = some (.string t.s) ∧ w'.cell? ⟨C,0,none⟩ = some (.map (some m)))
   (first
     | go_keep
     | exact ⟨hc2,hcC1⟩)
   (fail)
  go_wp2_with fail
  go_ret
  exact ⟨rfl,HO1.out,HR1.out⟩
theorem Trm.sees_names (Ns : List (List UInt8)) (hNs : Ns.length ≤ 65536) {B m C : Nat} (hBm : B ≤ m) (hCm : C ≠ m) : Sees B m C 122 seeNames (NInv m C) (fun t d => OkMay t d ∧ ∀ x ∈ t.nms,x ∈ Ns) (fun st => ∀ x ∈ st,x ∈ Ns) where
 calls st t b o d u w hg hi ho hu0 hud hat hB := names1_any Ns hNs hCm st t b o d u w hg hi hat
 good st t d u hg ho hr x hx := by
  rcases List.mem_append.1 hx with hx | hx
  ·exact hg x hx
  ·exact ho.2 x (by rw [Tm.nms_eq]; exact List.mem_append_left _ hx)
 bound t d ho := by have := ho.1.node.2; have := ho.1.1; omega
 down st t d u ho hr x hx := ⟨ho.1.down x hx,fun y hy => ho.2 y (by rw [Tm.nms_eq]; exact List.mem_append_right _ (nmsL_mem hx y hy))⟩
 keep st w w' hi hb := ⟨by
  obtain ⟨es,clock,hbk,F,hs,hD⟩ := hi.1
  exact ⟨es,clock,Lvl.keep hb hbk,F,hs,hD⟩,Lvl.keep hb hi.2⟩
 low := hBm
 enter args w := by kernel_rfl
end Go.Proofs.YtiekbhlnnmnklaaGreat
namespace Go.Proofs.YtiekbhlnnmnklaaGreat
open Lvl Trm
namespace Trm
end Trm
end Go.Proofs.YtiekbhlnnmnklaaGreat
namespace Go.Proofs.YtiekbhlnnmnklaaGreat
open Lvl Trm
namespace Arn
noncomputable instance decTm : DecidableEq Tm := fun _ _ => Classical.propDecidable _
structure OkL (L : List Tm) : Prop where
 nodup : L.Nodup
 may : ∀ x ∈ L,x.may = true
 kids : ∀ (i : Nat) (h : i < L.length),∀ y ∈ (L[i]).ts,y ∈ L.take i
theorem OkL.nil : OkL [] := ⟨List.nodup_nil,fun x h => by simp at h,fun i h => by simp at h⟩
theorem OkL.snoc {L : List Tm} (h : OkL L) {t : Tm} (hm : t.may = true) (hn : t ∉ L) (hp : ∀ y ∈ t.ts,y ∈ L) : OkL (L ++ [t]) where
 nodup := List.nodup_append.2 ⟨h.nodup,by simp,fun a ha b hb e => by simp at hb; subst hb; subst e; exact hn ha⟩
 may x hx := by
  rcases List.mem_append.1 hx with hx | hx
  ·exact h.may x hx
  ·simp at hx; subst hx; exact hm
 kids i hi y hy := by
  by_cases hl : i < L.length
  ·rw [List.getElem_append_left hl] at hy
   rw [List.take_append_of_le_length (by omega)]
   exact h.kids i hl y hy
  ·have hi2 : i = L.length := by simp at hi; omega
   subst hi2
   simp at hy
   rw [List.take_append_of_le_length (by omega),List.take_length]
   exact hp y hy
mutual
noncomputable def Tm.ins : Tm → List Tm → List Tm
 | .mk k n s ls ts,L => if Tm.mk k n s ls ts ∈ insL ts L then insL ts L else insL ts L ++ [.mk k n s ls ts]
noncomputable def insL : List Tm → List Tm → List Tm
 | [],L => L
 | t :: r,L => insL r (Tm.ins t L)
end
theorem ins_eq (t : Tm) (L : List Tm) : Tm.ins t L = if t ∈ insL t.ts L then insL t.ts L else insL t.ts L ++ [t] := by cases t; rw [Tm.ins]; rfl
mutual
theorem ins_len : ∀ (t : Tm) (L : List Tm),((Tm.ins t L).length : Int) ≤ L.length + t.size
 | .mk k n s ls ts,L => by
   rw [Tm.ins,Tm.size]
   have := insL_len ts L
   split
   ·omega
   ·simp; omega
theorem insL_len : ∀ (ts : List Tm) (L : List Tm),((insL ts L).length : Int) ≤ L.length + sizeL ts
 | [],L => by rw [insL,sizeL]; omega
 | t :: r,L => by
   rw [insL,sizeL]
   have h1 := ins_len t L
   have h2 := insL_len r (Tm.ins t L)
   omega
end
theorem soundL_mem {x : Tm} : ∀ {ts : List Tm},soundL ts → x ∈ ts → x.sound
 | t :: r,h,hx => by
   rw [soundL] at h
   rcases List.mem_cons.1 hx with rfl | hx
   ·exact h.1
   ·exact soundL_mem h.2 hx
theorem htL_mem {x : Tm} : ∀ {ts : List Tm},x ∈ ts → x.ht ≤ htL ts
 | t :: r,hx => by
   rw [htL]
   rcases List.mem_cons.1 hx with rfl | hx
   ·omega
   ·have := htL_mem hx; omega
theorem sizeL_mem {x : Tm} : ∀ {ts : List Tm},x ∈ ts → x.size ≤ sizeL ts
 | t :: r,hx => by
   rw [sizeL]
   rcases List.mem_cons.1 hx with rfl | hx
   ·have := sizeL_ge r; omega
   ·have := sizeL_mem hx; have := t.size_pos; omega
theorem ht_eq (t : Tm) : t.ht = 1 + htL t.ts := by cases t; rw [Tm.ht]; rfl
theorem size_part {t x : Tm} (hx : x ∈ t.ts) : x.size < t.size := by
 have := sizeL_mem hx; rw [Tm.size_eq t]; omega
theorem may_part {t x : Tm} (h : t.may = true) (hx : x ∈ t.ts) : x.may = true := by
 obtain ⟨hs,hh⟩ := may_sound h
 have hz := may_size' h
 refine may_of ?_ (by have := size_part hx; omega) (by have := htL_mem hx; rw [ht_eq] at hh; omega)
 cases t with
 | mk k n s ls ts => rw [Tm.sound] at hs; exact soundL_mem hs.2 hx
theorem may_node {t : Tm} (h : t.may = true) : t.node = true := by
 obtain ⟨hs,hh⟩ := may_sound h
 cases t with
 | mk k n s ls ts => rw [Tm.sound] at hs; exact hs.1
/-! sizes -/
end Arn
end Go.Proofs.YtiekbhlnnmnklaaGreat
namespace Go.Proofs.YtiekbhlnnmnklaaGreat
open Go.Great
variable {P : Program}
theorem wp_bslice {o : Oper} {a : Act} {w : World} {K : Act → World → Prop} {Q : Exit → Act → World → Prop} (t e : TypeId) (len : Nat) (parts : Array (Nat × Operand)) (ho : o.op = .buildSlice t len parts) (dst : Option Tmp) (hdst : o.dst = dst)
 (cells : Array Value) (hu : P.underlying t = some (.slice e)) (hf : P.builtSlice e len (parts.map fun (i,x) => (i,a.eval x)).toList = some cells)
 (h : K (a.put dst (.slice (some ⟨w.heap.size,0,none⟩) len len)) (w.alloc (.cells cells e))) : o.wp P a w K Q := by
 subst hdst
 unfold Program.builtSlice at hf
 split at hf
 ·rename_i ie hie
  split at hf
  ·rename_i z hz
   split at hf
   ·cases hf
   ·rename_i hc
    exact wp_buildSlice t e len parts ho cells ie z hu hie hz (fun h' => hc (Or.inl h')) (fun h' => hc (Or.inr h')) hf h
  ·cases hf
 ·cases hf
theorem wp_buildT {o : Oper} {a : Act} {w : World} {K : Act → World → Prop} {Q : Exit → Act → World → Prop} (t : TypeId) (parts : Array (Nat × Operand)) (ho : o.op = .build t parts) (dst : Option Tmp) (hdst : o.dst = dst)
 (cells : Array Value) (hf : P.built t (parts.map fun (i,x) => (i,a.eval x)).toList = some cells)
 (h : K (a.put dst (.agg cells)) w) : o.wp P a w K Q := by
 subst hdst
 refine wp_build t parts ho (by rw [hf]; rfl) ?_
 rw [hf]
 exact h
theorem wp_load_rowT {o : Oper} {a : Act} {w : World} {K : Act → World → Prop} {Q : Exit → Act → World → Prop} (ty : TypeId) (x : Operand) (ho : o.op = .load ty x) (dst : Option Tmp) (hdst : o.dst = dst)
 (g : Nat) (hx : a.eval x = .pointer (some ⟨g,0,none⟩)) (t : TypeId) (cs : Array Value) (fr : Nat × Nat) (d : TypeDesc) (hg : w.heap[g]? = some (.cells cs t fr))
 (hu : P.underlying ty = some d) (hd : (match d with | .struct _ | .array _ _ => true | _ => false) = true) (hi : (P.info? ty).map (·.size) = some cs.size)
 (h : K (a.put dst (.agg cs)) w) : o.wp P a w K Q := by
 subst hdst
 exact wp_load_row ty x ho g hx t cs fr d hg hu hd hi h
theorem wpList_yes {ops : Array Oper} {rest : List Oper} {o : Oper} {a : Act} {w : World} {Q : Exit → Act → World → Prop} (hw : Region.wanted o (yielded ops a.tmps) = true)
 (h : ∀ K : Act → World → Prop,(∀ a w,wpList P ops Q rest a w → K a w) → o.wp P a w K Q) : wpList P ops Q (o :: rest) a w :=
 wpList_step fun K hK => by rw [if_pos hw]; exact h K hK
theorem wpList_bsliceG {ops : Array Oper} {rest : List Oper} {o : Oper} {a : Act} {w : World} {Q : Exit → Act → World → Prop} (hw : Region.wanted o (yielded ops a.tmps) = true) (t e : TypeId) (len : Nat) (parts : Array (Nat × Operand)) (ho : o.op = .buildSlice t len parts) (dst : Option Tmp) (hdst : o.dst = dst)
 (cells : Array Value) (hu : P.underlying t = some (.slice e)) (hf : P.builtSlice e len (parts.map fun (i,x) => (i,a.eval x)).toList = some cells)
 (h : wpList P ops Q rest (a.put dst (.slice (some ⟨w.heap.size,0,none⟩) len len)) (w.alloc (.cells cells e))) : wpList P ops Q (o :: rest) a w :=
 wpList_yes hw fun _ hK => wp_bslice t e len parts ho dst hdst cells hu hf (hK _ _ h)
theorem wpList_buildG {ops : Array Oper} {rest : List Oper} {o : Oper} {a : Act} {w : World} {Q : Exit → Act → World → Prop} (hw : Region.wanted o (yielded ops a.tmps) = true) (t : TypeId) (parts : Array (Nat × Operand)) (ho : o.op = .build t parts) (dst : Option Tmp) (hdst : o.dst = dst)
 (cells : Array Value) (hf : P.built t (parts.map fun (i,x) => (i,a.eval x)).toList = some cells)
 (h : wpList P ops Q rest (a.put dst (.agg cells)) w) : wpList P ops Q (o :: rest) a w :=
 wpList_yes hw fun _ hK => wp_buildT t parts ho dst hdst cells hf (hK _ _ h)
theorem wpList_load_rowG {ops : Array Oper} {rest : List Oper} {o : Oper} {a : Act} {w : World} {Q : Exit → Act → World → Prop} (hw : Region.wanted o (yielded ops a.tmps) = true) (ty : TypeId) (x : Operand) (ho : o.op = .load ty x) (dst : Option Tmp) (hdst : o.dst = dst)
 (g : Nat) (hx : a.eval x = .pointer (some ⟨g,0,none⟩)) (t : TypeId) (cs : Array Value) (fr : Nat × Nat) (d : TypeDesc) (hg : w.heap[g]? = some (.cells cs t fr))
 (hu : P.underlying ty = some d) (hd : (match d with | .struct _ | .array _ _ => true | _ => false) = true) (hi : (P.info? ty).map (·.size) = some cs.size)
 (h : wpList P ops Q rest (a.put dst (.agg cs)) w) : wpList P ops Q (o :: rest) a w :=
 wpList_yes hw fun _ hK => wp_load_rowT ty x ho dst hdst g hx t cs fr d hg hu hd hi (hK _ _ h)
end Go.Proofs.YtiekbhlnnmnklaaGreat
