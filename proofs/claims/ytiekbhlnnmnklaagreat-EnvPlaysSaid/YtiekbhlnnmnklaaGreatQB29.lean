/-
 Two environments with the same infos answer the same.
-/
import Derived.Lib.Hide
import Derived.Test.YtiekbhlnnmnklaaGreatQB28
import Derived.Deep.AppendLies
import Derived.Test.YtiekbhlnnmnklaaGreatQB23
open Go.Lib (hid)
set_option maxRecDepth 100000
set_option maxHeartbeats 32000000
namespace Go.Proofs.YtiekbhlnnmnklaaGreat
open Go.RowKit Go.Shelf Lvl Trm Env
namespace Env
def infs (L : List Ent) : List Inf := L.map (·.2.1)
theorem infs_len {A B : List Ent} (h : infs A = infs B) : A.length = B.length := by have := congrArg List.length h; simpa [infs] using this
theorem look_infs (L : List Ent) (k : List UInt8) : (lookE L k).map (·.2.1) = (infs L).find? (fun x => key x.name == k) := by
 unfold lookE infs
 rw [List.find?_map]
 rfl
theorem look_alike {A B : List Ent} (h : infs A = infs B) (k : List UInt8) : (lookE A k).map (·.2.1) = (lookE B k).map (·.2.1) := by rw [look_infs,look_infs,h]
theorem some_alike {A B : List Ent} (h : infs A = infs B) (k : List UInt8) : (lookE A k).isSome = (lookE B k).isSome := by
 have e := congrArg Option.isSome (look_alike h k)
 simpa using e
theorem hof_alike {A B : List Ent} (h : infs A = infs B) (k : List UInt8) : hof A k = hof B k := by
 have e := look_alike h k
 unfold hof
 cases ha : lookE A k with
 | none =>
   cases hb : lookE B k with
   | none => rfl
   | some q => rw [ha,hb] at e; cases e
 | some p =>
   cases hb : lookE B k with
   | none => rw [ha,hb] at e; cases e
   | some q =>
     rw [ha,hb] at e
     injection e with e
     have e2 : p.2.1 = q.2.1 := e
     simp only
     rw [e2]
theorem maxH_alike {A B : List Ent} (h : infs A = infs B) (l : List (List UInt8)) : maxH A l = maxH B l := by
 unfold maxH
 rw [show (fun (a : Int) k => max a (hof A k)) = (fun (a : Int) k => max a (hof B k)) from funext fun a => funext fun k => by rw [hof_alike h k]]
theorem fixI_alike {A B : List Ent} (h : infs A = infs B) (x : Inf) : fixI A x = fixI B x := by unfold fixI; rw [maxH_alike h]
theorem known_alike {A B : List Ent} (h : infs A = infs B) (ks : List (List UInt8)) (i : Nat) (hv : Bool) : known A ks i hv = known B ks i hv := funext fun k => by unfold known; rw [some_alike h k]
theorem wrongI_alike {A B : List Ent} (h : infs A = infs B) (ks : List (List UInt8)) (i : Nat) (x : Inf) : wrongI A ks i x = wrongI B ks i x := by
 unfold wrongI wrongT
 rw [some_alike h,known_alike h]
theorem wrongL_alike {A B : List Ent} (h : infs A = infs B) (l : List Inf) : wrongL A l = wrongL B l := by
 unfold wrongL
 rw [show (fun p : Inf × Nat => wrongI A (names l) p.2 p.1) = (fun p : Inf × Nat => wrongI B (names l) p.2 p.1) from funext fun p => wrongI_alike h _ _ _]
theorem addA_alike {A B : List Ent} (h : infs A = infs B) (l : List Inf) : addA A l = addA B l := by unfold addA; rw [infs_len h,wrongL_alike h]
theorem Added.none {B B' : List Ent} (h : Added B [] B') : B' = B := by
 generalize hl : ([] : List Inf) = l at h
 cases h with
 | nil => rfl
 | snoc x b hd h2 => simp at hl
theorem Added.last {B B' : List Ent} {l : List Inf} {x : Inf} (h : Added B (l ++ [x]) B') : ∃ M b hd,Added B l M ∧ B' = M ++ [(b,fixI M x,hd)] := by
 generalize hl : l ++ [x] = l2 at h
 cases h with
 | nil => simp at hl
 | snoc y b hd h2 =>
   obtain ⟨rfl,h3⟩ := List.append_inj' hl rfl
   simp at h3
   subst h3
   exact ⟨_,b,hd,h2,rfl⟩
theorem Added.alike {A A' : List Ent} {l : List Inf} (h : Added A l A') : ∀ {B B' : List Ent},Added B l B' → infs A = infs B → infs A' = infs B' := by
 induction h with
 | nil =>
   intro B B' hb e
   rw [hb.none]; exact e
 | snoc x b hd h2 ih =>
   intro B B' hb e
   obtain ⟨M,b',hd',hm,rfl⟩ := hb.last
   have e2 := ih hm e
   unfold infs at e2 ⊢
   rw [List.map_append,List.map_append,e2]
   simp only [List.map_cons,List.map_nil]
   rw [fixI_alike (show infs _ = infs M from e2) x]
theorem AddTo.alike {A A' B B' : List Ent} {l : List Inf} (h : AddTo A l A') (k : AddTo B l B') (e : infs A = infs B) : infs A' = infs B' := by
 rcases h with ⟨h0,h1⟩ | ⟨h0,rfl⟩
 ·rcases k with ⟨_,k1⟩ | ⟨k0,_⟩
  ·exact h1.alike k1 e
  ·exact absurd ((addA_alike e l).symm.trans h0) k0
 ·rcases k with ⟨k0,_⟩ | ⟨_,rfl⟩
  ·exact absurd ((addA_alike e l).trans k0) h0
  ·exact e
theorem infs_get {A B : List Ent} (h : infs A = infs B) {j : Nat} (hj : j < A.length) : ∃ hb : j < B.length,A[j].2.1 = B[j].2.1 := by
 have hl := infs_len h
 refine ⟨by omega,?_⟩
 have h1 : (infs A)[j]? = (infs B)[j]? := by rw [h]
 unfold infs at h1
 rw [List.getElem?_map,List.getElem?_map,List.getElem?_eq_getElem hj,List.getElem?_eq_getElem (by omega)] at h1
 simpa using h1
end Env
end Go.Proofs.YtiekbhlnnmnklaaGreat
namespace Go.Proofs.YtiekbhlnnmnklaaGreat
open Go.RowKit Go.Shelf Go.Maps Lvl Trm Env
namespace Env
def zI : Inf := ⟨0,no,0,zeroT,zeroT,0,no,no,0,0,0,0,0,0,[],0,false⟩
def zIHd : IHd := ⟨zHd,zHd,none,0⟩
theorem zI_vals : (zI.vals zIHd).toArray = Inf.zeros := rfl
theorem zI_firm {P : Nat → Prop} {w : World} : FirmI P w zI zIHd := ⟨⟨by decide,by decide,by decide,by decide⟩,firm_zero,firm_zero,⟨fun k hk => by simp [zI] at hk⟩⟩
end Env
theorem add_nil (a : Option Addr) (n c : Nat) (w : World) : Calls Tryz.prog 20 #[.pointer none,.slice a n c] w fun e w' => e = .returned (.int .i64 2) ∧ w = w' := by
 go_enter Tryz.func20,Tryz.ntmps20
 go_wp2_with fail
 go_ret
 exact ⟨rfl,rfl⟩
theorem with_nil (a : Option Addr) (n c : Nat) (w : World) : Calls Tryz.prog 19 #[.pointer none,.slice a n c] w fun e w' => e = .returned (.tuple #[.pointer none,.int .i64 2]) ∧ w = w' := by
 obtain ⟨Q,hQ⟩ : ∃ Q : Ending → World → Prop,Q = fun e w' => e = .returned (.tuple #[.pointer none,.int .i64 2]) ∧ w = w' := ⟨_,rfl⟩
 rw [← hQ]
 have HE : Hid (Q (.returned (.tuple #[.pointer none,.int .i64 2])) w) := hid (by rw [hQ]; exact ⟨rfl,rfl⟩)
 clear hQ
 go_enter Tryz.func19,Tryz.ntmps19
 go_wp2_with fail
 exact HE.out
theorem list_nil (w : World) : Calls Tryz.prog 18 #[.pointer none] w fun e w' => e = .returned (.slice none 0 0) ∧ w = w' := by
 go_enter Tryz.func18,Tryz.ntmps18
 go_wp2_with fail
 go_ret
 exact ⟨rfl,rfl⟩
theorem of_nil (t : Tm) (hd : Hd) (w : World) : Calls Tryz.prog 63 #[.pointer none,t.val hd] w fun e w' => e = .returned (.tuple #[.pointer none,.int .i64 2]) ∧ Below w.heap.size w w' := by
 obtain ⟨Q,hQ⟩ : ∃ Q : Ending → World → Prop,Q = fun e w' => e = .returned (.tuple #[.pointer none,.int .i64 2]) ∧ Below w.heap.size w w' := ⟨_,rfl⟩
 rw [← hQ]
 have HE : Hid (Q (.returned (.tuple #[.pointer none,.int .i64 2])) (w.alloc (t.box hd))) := hid (by rw [hQ]; exact ⟨rfl,below_one _ _⟩)
 clear hQ
 unfold Tm.box Tm.vals at HE
 unfold Tm.val Tm.vals
 go_enter Tryz.func63,Tryz.ntmps63
 go_wp2_with fail
 exact HE.out
theorem find_nil (s : ByteArray) (w : World) : Calls Tryz.prog 23 #[.pointer none,.string s] w fun e w' => e = .returned (.tuple #[zInfo,.bool false]) ∧ Below w.heap.size w w' := by
 obtain ⟨WA,hWA⟩ : ∃ WA,WA = w.alloc (.cells Inf.zeros 46) := ⟨_,rfl⟩
 have HBA := hid (show Below w.heap.size w WA from hWA ▸ below_one _ _)
 have HZ := hid (show WA.heap[w.heap.size]? = some (.cells Inf.zeros 46) from hWA ▸ World.alloc_heap_new _ _)
 have HKI : Hid ((Tryz.prog.info? 46).map (·.size) = some 25) := hid infoInf
 have HC25 : Hid ((Tryz.prog.info? 46).map (·.size) = some Inf.zeros.size) := hid HKI.out
 have HONE : Hid (Inf.zeros.all (·.oneCell') = true) := hid (by kernel_rfl)
 unfold Inf.zeros at hWA
 go_enter Tryz.func23,Tryz.ntmps23
 go_upto_region 1 with fail
 rw [← hWA]
 clear hWA
 go_wp2_with fail
 refine (at_nil _ _).mono ?_
 rintro y w' ⟨rfl,rfl⟩
 go_wp2_with (first
  | (refine wpList_buildTo rfl 46 _ rfl (some 12) rfl Inf.zeros (by kernel_rfl) ?_)
  | (refine wpList_store_row rfl 46 (.tmp 4) (.tmp 12) rfl w.heap.size Inf.zeros rfl rfl 46 Inf.zeros HZ.out HC25.out rfl HONE.out ?_))
 exact bodyPost_ret_by (results_two rfl _ _ w.heap.size _ (.bool false) rfl rfl (run_loadVar_row _ _ _ _ _ _ _ (setRow_heap WA _ _ _ _ _ HZ.out) Tryz.underlying46 rfl HC25.out)) rfl ⟨rfl,below_setRow HBA.out (Nat.le_refl _) _⟩
theorem type_nil (t : Tm) (hd : Hd) (w : World) : Calls Tryz.prog 25 #[.pointer none,t.val hd] w (TAns (zeroT,2) w) := by
 obtain ⟨WB,hWB⟩ : ∃ WB,WB = (w.alloc (t.box hd)).alloc (.cells #[.int .u8 0,.int .i64 0,.string no,.slice none 0 0,.slice none 0 0] 27) := ⟨_,rfl⟩
 have HBB := hid (show Below w.heap.size w WB from hWB ▸ below_two _ _ _)
 have HBA := hid (show WB.heap[w.heap.size + 1]? = some (.cells #[.int .u8 0,.int .i64 0,.string no,.slice none 0 0,.slice none 0 0] 27) from hWB ▸ new2 _ _ _)
 have HOF2 := hid (fun (W : World) => of_nil t hd W)
 unfold Tm.val Tm.vals at *
 go_enter Tryz.func25,Tryz.ntmps25
 unfold Tm.box Tm.vals no at hWB
 go_wp2_with fail
 rw [← hWB]
 clear hWB
 refine (HOF2.out WB).mono ?_
 rintro y w1 ⟨rfl,b1⟩
 have hA1 := Lvl.keep b1 HBA.out
 have HB1 := hid (Trm.go HBB.out b1)
 obtain ⟨a0,a1,a2,a3,a4⟩ := five_cells hA1
 obtain ⟨f0,f1,f2,f3,f4⟩ := five_free hA1
 have HA1 := hid hA1
 clear hA1 b1 HOF2
 go_wp2_with fail
 have h5 := putT_self HA1.out (.int .u8 0) (.int .i64 0) (.string no) (.slice none 0 0) (.slice none 0 0)
 have b5 := putT_below HB1.out (by omega : w.heap.size ≤ w.heap.size + 1) (.int .u8 0) (.int .i64 0) (.string no) (.slice none 0 0) (.slice none 0 0)
 unfold putT no at h5 b5
 generalize hW : ((((w1.setCell ⟨w.heap.size + 1,0,none⟩ (.int .u8 0)).setCell ⟨w.heap.size + 1,1,none⟩ (.int .i64 0)).setCell ⟨w.heap.size + 1,2,none⟩ (.string ⟨#[]⟩)).setCell ⟨w.heap.size + 1,3,none⟩ (.slice none 0 0)).setCell ⟨w.heap.size + 1,4,none⟩ (.slice none 0 0) = W4 at h5 b5 ⊢
 obtain ⟨e0,e1,e2,e3,e4⟩ := five_cells h5
 clear hW
 exact bodyPost_ret (v := .tuple #[zeroT.val ⟨none,0,none,0⟩,.int .i64 2]) (by simp [results,Tryz.results25,go_sem,e0,e1,e2,e3,e4,zeroT,Tm.val,Tm.vals,Tm.k,Tm.n,Tm.s,Tm.ls,Tm.ts,no]) rfl ⟨⟨none,0,none,0⟩,rfl,leaf_in (by decide) (by decide) (by decide) (by decide) (by decide),b5⟩
theorem value_nil (t : Tm) (hd : Hd) (w : World) : Calls Tryz.prog 27 #[.pointer none,t.val hd] w (TAns (zeroT,2) w) := by
 obtain ⟨WB,hWB⟩ : ∃ WB,WB = (w.alloc (t.box hd)).alloc (.cells #[.int .u8 0,.int .i64 0,.string no,.slice none 0 0,.slice none 0 0] 27) := ⟨_,rfl⟩
 have HBB := hid (show Below w.heap.size w WB from hWB ▸ below_two _ _ _)
 have HBA := hid (show WB.heap[w.heap.size + 1]? = some (.cells #[.int .u8 0,.int .i64 0,.string no,.slice none 0 0,.slice none 0 0] 27) from hWB ▸ new2 _ _ _)
 have HOF2 := hid (fun (W : World) => of_nil t hd W)
 unfold Tm.val Tm.vals at *
 go_enter Tryz.func27,Tryz.ntmps27
 unfold Tm.box Tm.vals no at hWB
 go_wp2_with fail
 rw [← hWB]
 clear hWB
 refine (HOF2.out WB).mono ?_
 rintro y w1 ⟨rfl,b1⟩
 have hA1 := Lvl.keep b1 HBA.out
 have HB1 := hid (Trm.go HBB.out b1)
 obtain ⟨a0,a1,a2,a3,a4⟩ := five_cells hA1
 obtain ⟨f0,f1,f2,f3,f4⟩ := five_free hA1
 have HA1 := hid hA1
 clear hA1 b1 HOF2
 go_wp2_with fail
 have h5 := putT_self HA1.out (.int .u8 0) (.int .i64 0) (.string no) (.slice none 0 0) (.slice none 0 0)
 have b5 := putT_below HB1.out (by omega : w.heap.size ≤ w.heap.size + 1) (.int .u8 0) (.int .i64 0) (.string no) (.slice none 0 0) (.slice none 0 0)
 unfold putT no at h5 b5
 generalize hW : ((((w1.setCell ⟨w.heap.size + 1,0,none⟩ (.int .u8 0)).setCell ⟨w.heap.size + 1,1,none⟩ (.int .i64 0)).setCell ⟨w.heap.size + 1,2,none⟩ (.string ⟨#[]⟩)).setCell ⟨w.heap.size + 1,3,none⟩ (.slice none 0 0)).setCell ⟨w.heap.size + 1,4,none⟩ (.slice none 0 0) = W4 at h5 b5 ⊢
 obtain ⟨e0,e1,e2,e3,e4⟩ := five_cells h5
 clear hW
 exact bodyPost_ret (v := .tuple #[zeroT.val ⟨none,0,none,0⟩,.int .i64 2]) (by simp [results,Tryz.results27,go_sem,e0,e1,e2,e3,e4,zeroT,Tm.val,Tm.vals,Tm.k,Tm.n,Tm.s,Tm.ls,Tm.ts,no]) rfl ⟨⟨none,0,none,0⟩,rfl,leaf_in (by decide) (by decide) (by decide) (by decide) (by decide),b5⟩
theorem height_nil (t : Tm) (ht : Hd) (w : World) (hin : t.In w.heap.size w ht) :
 Calls Tryz.prog 31 #[.pointer none,t.val ht] w fun y w' => y = .returned (.int .i64 0) ∧ Below w.heap.size w w' := by
 obtain ⟨WA,hWA⟩ : ∃ WA,WA = w.alloc (t.box ht) := ⟨_,rfl⟩
 have HBA := hid (show Below w.heap.size w WA from hWA ▸ below_one _ _)
 have HBX := hid (show WA.heap[w.heap.size]? = some (t.box ht) from hWA ▸ World.alloc_heap_new w _)
 have HN := hid (Names_any t ht WA (carry hin HBA.out))
 clear hin
 unfold Tm.val Tm.vals at *
 go_enter Tryz.func31,Tryz.ntmps31
 unfold Tm.box Tm.vals at hWA
 go_upto_region 1 with fail
 rw [← hWA]
 clear hWA
 obtain ⟨x0,x1,x2,x3,x4⟩ := Tm.cells HBX.out
 go_wp2_with fail
 refine HN.out.mono ?_
 rintro y w1 ⟨ao,cp,l,rfl,hsr,_,hlen,b1⟩
 have HFEW := hid hlen
 have HSR := hid hsr
 have HB1 := hid (Trm.go HBA.out b1)
 clear hsr hlen b1 x0 x1 x2 x3 x4
 go_wp2_with fail
 go_loopw [5,12] (fun v i wr => ∃ k : Nat,i = .int .i64 k ∧ v = .int .i64 0 ∧ k ≤ l.length ∧ w1 = wr) (fun _ i _ => l.length - (intOf i).toNat)
 case atStart => exact ⟨0,rfl,rfl,by omega,rfl⟩
 case round =>
  obtain ⟨k,rfl,rfl,hk,rfl⟩ := hrel
  by_cases hlt : k < l.length
  ·obtain ⟨b,off,hao,hb,hc⟩ := HSR.out.place k hlt
   subst hao
   have hwk : wrap64 ((k : Int) + 1) = (k : Int) + 1 := IntWalk.wrap64_in _ (by have := HFEW.out; omega)
   have HLT := hid hlt
   generalize (⟨l[k].toArray⟩ : ByteArray) = s at hc
   go_wp2_with fail
   refine (at_nil _ _).mono ?_
   rintro y w' ⟨rfl,rfl⟩
   go_wp2_with fail
   go_roundw
   case rel => rw [hwk]; exact ⟨k + 1,rfl,rfl,HLT.out,by trivial⟩
   case measure => exact less_step hwk HLT.out
  ·have hke : k = l.length := by omega
   subst hke
   go_wp2_with fail
   go_ret
   exact ⟨rfl,HB1.out⟩
end Go.Proofs.YtiekbhlnnmnklaaGreat
namespace Go.Proofs.YtiekbhlnnmnklaaGreat
open Go.RowKit Go.Shelf Go.Maps Lvl Trm Env
theorem Env.firm_leaf {P : Nat → Prop} {w : World} {k n : Int} {s : ByteArray} {lc tc : Nat} (hk0 : 0 ≤ k) (hk1 : k ≤ 255) (hn0 : -9223372036854775808 ≤ n) (hn1 : n ≤ 9223372036854775807) (hs : s.size ≤ 9223372036854775807) : FirmS P w (.mk k n s [] []) ⟨none,lc,none,tc⟩ :=
 fun _ _ => leaf_in hk0 hk1 hn0 hn1 hs
def Env.MadeE (t : Tm) (w : World) (e : Ending) (w' : World) : Prop := ∃ h,e = .returned (t.val h) ∧ Below w.heap.size w w' ∧ ∀ P : Nat → Prop,(∀ q,P q → q < w.heap.size) → FirmS P w' t h
theorem SE_any (w : World) : Calls Tryz.prog 22 #[] w (MadeE tS w) := by
 go_enter Tryz.func22,Tryz.ntmps22
 go_wp2_with fail
 refine (RefZero_any _).mono ?_
 rintro e w1 ⟨rfl,b1⟩
 have hk := Lvl.keep b1 (World.alloc_heap_new w _)
 have hz := b1.size
 simp only [World.size_alloc] at hz
 have HB := hid ((below_one w _).trans (b1.mono (B' := w.heap.size) (by simp)))
 clear b1
 have hlt : w.heap.size < w1.heap.size := by omega
 obtain ⟨c0,c1,c2,c3,c4⟩ := five_cells hk
 obtain ⟨f0,f1,f2,f3,f4⟩ := five_free hk
 have HK := hid hk
 clear hk
 dsimp only [Lv.val,number]
 go_wp2_with fail
 have h5 := putT_self HK.out (.int .u8 1) (.int .i64 0) (.string no) (.slice (some ⟨w1.heap.size,0,none⟩) 1 1) (.slice none 0 0)
 have b5 := putT_below HB.out (B := w.heap.size) (Nat.le_refl _) (.int .u8 1) (.int .i64 0) (.string no) (.slice (some ⟨w1.heap.size,0,none⟩) 1 1) (.slice none 0 0)
 have z5 := putT_size w1 w.heap.size (.int .u8 1) (.int .i64 0) (.string no) (.slice (some ⟨w1.heap.size,0,none⟩) 1 1) (.slice none 0 0)
 unfold putT no at h5 b5 z5
 generalize hW : ((((w1.setCell ⟨w.heap.size,0,none⟩ (.int .u8 1)).setCell ⟨w.heap.size,1,none⟩ (.int .i64 0)).setCell ⟨w.heap.size,2,none⟩ (.string ⟨#[]⟩)).setCell ⟨w.heap.size,3,none⟩ (.slice (some ⟨w1.heap.size,0,none⟩) 1 1)).setCell ⟨w.heap.size,4,none⟩ (.slice none 0 0) = W4 at h5 b5 z5 ⊢
 have l5 := World.alloc_heap_new W4 (.cells #[.int .i64 0,.int .i64 (-1),.int .i64 (-1),.int .i64 (-1),.int .i64 (-1)] 61)
 rw [z5] at l5
 obtain ⟨e0,e1,e2,e3,e4⟩ := five_cells (keepA h5 (.cells #[.int .i64 0,.int .i64 (-1),.int .i64 (-1),.int .i64 (-1),.int .i64 (-1)] 61))
 clear hW
 exact bodyPost_ret (v := tS.val ⟨some ⟨w1.heap.size,0,none⟩,1,none,0⟩) (by simp [results,Tryz.results22,go_sem,e0,e1,e2,e3,e4,tS,Tm.val,Tm.vals,Tm.k,Tm.n,Tm.s,Tm.ls,Tm.ts,no]) rfl ⟨_,rfl,b5.alloc b5.size _,fun P hP w2 hr => tS_in (hr.keep l5 (fun a => by have := hP _ a; omega)) (by have := hr.size; rw [World.size_alloc] at this; omega)⟩
theorem CE_any (s : ByteArray) (w : World) :
 Calls Tryz.prog 54 #[.string s] w (fun e w' => e = .returned ((tC s).val zHd) ∧ Below w.heap.size w w') := by
 go_enter Tryz.func54,Tryz.ntmps54
 go_wp2_with fail
 exact bodyPost_ret (v := (tC s).val zHd) (by simp [results,Tryz.results54,go_sem,tC,Tm.val,Tm.vals,Tm.k,Tm.n,Tm.s,Tm.ls,Tm.ts,zHd]) rfl ⟨rfl,below_one _ _⟩
theorem Env.C_firm {P : Nat → Prop} {w : World} (s : ByteArray) (hs : s.size ≤ 9223372036854775807) : FirmS P w (tC s) zHd := firm_leaf (by decide) (by decide) (by decide) (by decide) hs
namespace Env
def ax (s : ByteArray) (t : Tm) : Inf := { zI with kind := 1,name := s,ty := t }
def df (s : ByteArray) (t u : Tm) : Inf := { zI with kind := 2,name := s,ty := t,va := u }
theorem ax_firm {P : Nat → Prop} {w : World} {s : ByteArray} {t : Tm} {h : Hd} (hs : s.size ≤ 9223372036854775807) (f : FirmS P w t h) : FirmI P w (ax s t) { zIHd with ty := h } := ⟨⟨(by decide : (0 : Int) ≤ 1),(by decide : (1 : Int) ≤ 255),hs,(by decide : (0 : Nat) ≤ 9223372036854775807)⟩,f,firm_zero,⟨fun k hk => by simp [ax,zI] at hk⟩⟩
theorem df_firm {P : Nat → Prop} {w : World} {s : ByteArray} {t u : Tm} {h g : Hd} (hs : s.size ≤ 9223372036854775807) (f : FirmS P w t h) (k : FirmS P w u g) : FirmI P w (df s t u) { zIHd with ty := h,va := g } := ⟨⟨(by decide : (0 : Int) ≤ 2),(by decide : (2 : Int) ≤ 255),hs,(by decide : (0 : Nat) ≤ 9223372036854775807)⟩,f,k,⟨fun k hk => by simp [df,zI] at hk⟩⟩
theorem one_row {P : Nat → Prop} {W : World} {x : Inf} {h : IHd} (f : FirmI P W x h) (hP : ∀ q,P q → q < W.heap.size) (ty : TypeId) : InfFirm P (W.alloc (.cells (x.vals h).toArray ty)) (some ⟨W.heap.size,0,none⟩) [x] := ⟨fun k hk => by
 have hk0 : k = 0 := by simp at hk; omega
 subst hk0
 refine ⟨W.heap.size,0,h,rfl,by rw [World.size_alloc]; omega,fun a => by have := hP _ a; omega,fun j v hv => ?_,f.step (RanS.of_below (below_one _ _))⟩
 have hn := World.alloc_heap_new W (.cells (x.vals h).toArray ty)
 have hv2 : (x.vals h)[j]? = some v := hv
 rw [show 0 + 0 * 25 + j = j by omega]
 unfold World.cell?
 show (match (W.alloc (.cells (x.vals h).toArray ty)).heap[W.heap.size]? with | some (.cells c _ _) => c[j]? | _ => none) = some v
 rw [hn]
 simpa using hv2⟩
structure WS (w W : World) (P : Nat → Prop) (e : Nat) (L : List Ent) (mo : Option Nat) (v : Value) : Prop where
 env : EnvP P w.heap.size W e L mo v
 base : ∀ q,P q → w.heap.size ≤ q
 bel : Below w.heap.size w W
theorem WS.below {w W W' : World} {P : Nat → Prop} {e : Nat} {L : List Ent} {mo : Option Nat} {v : Value} (h : WS w W P e L mo v) (b : Below W.heap.size W W') : WS w W' P e L mo v := ⟨h.env.below b,h.base,Trm.go h.bel b⟩
theorem WS.add {w W W' : World} {P : Nat → Prop} {e : Nat} {L : List Ent} {mo : Option Nat} {v : Value} {l : List Inf} {y : Ending} (h : WS w W P e L mo v) (a : AddP P w.heap.size e L mo v W l y W') :
 y = .returned (.int .i64 (addA L l)) ∧ ∃ M mo' v' P',AddTo L l M ∧ WS w W' P' e M mo' v' ∧ Step P P' W W' := by
 obtain ⟨hy,M,mo',v',P',h1,h2,h3,h4,h5,h6⟩ := a
 have hs := h.bel.size
 have hb : ∀ q,P' q → w.heap.size ≤ q := fun q hq => by
  rcases h3.own q hq with b | b
  ·exact h.base q b
  ·omega
 exact ⟨hy,M,mo',v',P',h1,⟨h2,hb,h.bel.trans (h3.ran.below h.base hs)⟩,h3⟩
theorem WS.new {w w0 : World} (hb : Below w0.heap.size w0 w) : WS w0 (w.alloc (.cells #[.map none,.slice none 0 0] 99)) (fun q => q = w.heap.size) w.heap.size [] none (.slice none 0 0) := by
 have h := EnvB.start (w := w) hb.size
 have ho : ∀ q,ownE w.heap.size (.slice none 0 0) none q → q = w.heap.size := by
  rintro q (hq | hq | hq)
  ·exact hq
  ·simp [Value.ownBlock] at hq
  ·cases hq
 exact ⟨⟨h,ho,fun q hq => by rw [hq,World.size_alloc]; omega,fun p hp => by simp at hp⟩,fun q hq => by rw [hq]; exact hb.size,hb.trans ((below_one _ _).mono hb.size)⟩
theorem Added.one {L M : List Ent} {x : Inf} (h : Added L [x] M) : ∃ b hd,M = L ++ [(b,fixI L x,hd)] := by
 generalize hl : [x] = l at h
 cases h with
 | nil => cases hl
 | snoc y b hd h2 =>
   rename_i l2 M2
   have h3 : l2 = [] ∧ x = y := by
    cases l2 with
    | nil => simp at hl; exact ⟨rfl,hl⟩
    | cons a r => simp at hl
   obtain ⟨rfl,rfl⟩ := h3
   have : M2 = L := by
    generalize hn : ([] : List Inf) = l3 at h2
    cases h2 with
    | nil => rfl
    | snoc y b hd h4 => simp at hn
   subst this
   exact ⟨b,hd,rfl⟩
theorem AddTo.yes {L M : List Ent} {l : List Inf} (a : AddTo L l M) (h : addA L l = 0) : Added L l M := by
 rcases a with a | a
 ·exact a.2
 ·exact absurd h a.1
theorem AddTo.no {L M : List Ent} {l : List Inf} (a : AddTo L l M) (h : addA L l ≠ 0) : M = L := by
 rcases a with a | a
 ·exact absurd a.1 h
 ·exact a.2
theorem WS.addOne {w W : World} {P : Nat → Prop} {e : Nat} {L : List Ent} {mo : Option Nat} {v : Value} {x : Inf} {hx : IHd} (h : WS w W P e L mo v) (f : FirmI P W x hx) (hr : x.rules.length ≤ 1000) :
 Calls Tryz.prog 20 #[.pointer (some ⟨e,0,none⟩),.slice (some ⟨W.heap.size,0,none⟩) 1 1] (W.alloc (.cells (x.vals hx).toArray 46)) fun y W' =>
  y = .returned (.int .i64 (addA L [x])) ∧ ∃ M mo' v' P',AddTo L [x] M ∧ WS w W' P' e M mo' v' ∧ Step P P' W W' := by
 have hb : Below W.heap.size W (W.alloc (.cells (x.vals hx).toArray 46)) := below_one _ _
 have h2 := h.below hb
 refine (addP_any h2.env [x] (some ⟨W.heap.size,0,none⟩) 1 (one_row f h.env.lt _) (by simp) (fun y hy => by simp at hy; subst hy; exact hr)).mono ?_
 intro y W' a
 obtain ⟨hy,M,mo',v',P',h3,h4,h5⟩ := h2.add a
 exact ⟨hy,M,mo',v',P',h3,h4,(Step.of_below hb).trans h5⟩
def HoldI (P : Nat → Prop) (W : World) (b : Nat) (x : Inf) (h : IHd) : Prop := W.heap[b]? = some (.cells (x.vals h).toArray 46) ∧ ¬ P b ∧ FirmI P W x h
theorem HoldI.step {P P' : Nat → Prop} {W W' : World} {b : Nat} {x : Inf} {h : IHd} (k : HoldI P W b x h) (s : Step P P' W W') : HoldI P' W' b x h := ⟨(s.block k.1 k.2.1).1,(s.block k.1 k.2.1).2,s.inf k.2.2⟩
theorem HoldI.new {P : Nat → Prop} {W : World} {x : Inf} {h : IHd} (f : FirmI P W x h) (hP : ∀ q,P q → q < W.heap.size) : HoldI P (W.alloc (.cells (x.vals h).toArray 46)) W.heap.size x h :=
 ⟨World.alloc_heap_new _ _,fun a => by have := hP _ a; omega,f.step (RanS.of_below (below_one _ _))⟩
theorem FdPost.yes {P : Nat → Prop} {L : List Ent} {k : List UInt8} {w w' : World} {y : Ending} {p : Ent} (a : FdPost P L k w y w') (h : lookE L k = some p) :
 ∃ hd,y = .returned (.tuple #[.agg (p.2.1.vals hd).toArray,.bool true]) ∧ FirmI P w' p.2.1 hd ∧ Below w.heap.size w w' := by
 obtain ⟨b,⟨h1,_⟩ | ⟨q,hd,h1,h2,h3⟩⟩ := a
 ·rw [h] at h1; cases h1
 ·rw [h] at h1; injection h1 with h1; subst h1; exact ⟨hd,h2,h3,b⟩
theorem FdPost.no {P : Nat → Prop} {L : List Ent} {k : List UInt8} {w w' : World} {y : Ending} (a : FdPost P L k w y w') (h : lookE L k = none) :
 y = .returned (.tuple #[zInfo,.bool false]) ∧ Below w.heap.size w w' := by
 obtain ⟨b,⟨_,h1⟩ | ⟨q,hd,h1,_⟩⟩ := a
 ·exact ⟨h1,b⟩
 ·rw [h] at h1; cases h1
end Env
theorem findP_any {P : Nat → Prop} {B : Nat} {w : World} {e : Nat} {L : List Ent} {mo : Option Nat} {v : Value} (h : EnvP P B w e L mo v) (s : ByteArray) (hs : s.size ≤ maxLen) (hrs : ∀ p ∈ L,p.2.1.rules.length ≤ 1000) :
 Calls Tryz.prog 23 #[.pointer (some ⟨e,0,none⟩),.string s] w (FdPost P L (key s) w) := find_any h.env h.lt (fun p hp => (h.ent p hp).2) s hs hrs
end Go.Proofs.YtiekbhlnnmnklaaGreat
namespace Go.Proofs.YtiekbhlnnmnklaaGreat
open Go.RowKit Go.Shelf Go.Maps Lvl Trm Env
namespace Env
theorem infoInf3 : (Tryz.prog.info? 46).map (fun i => (i.zero,i.size,i.bytes)) = some (some (.agg Inf.zeros),25,320) := by kernel_rfl
def flatI (ps : List (Inf × IHd)) : List Value := ps.flatMap fun p => p.1.vals p.2
theorem flatI_len : ∀ ps : List (Inf × IHd),(flatI ps).length = ps.length * 25
 | [] => rfl
 | p :: r => by
   have h1 := flatI_len r
   unfold flatI at h1 ⊢
   rw [List.flatMap_cons,List.length_append,h1,Inf.len,List.length_cons]
   omega
theorem flatI_at : ∀ (ps : List (Inf × IHd)) (i : Nat) (hi : i < ps.length) (j : Nat),j < 25 → (flatI ps)[i * 25 + j]? = (ps[i].1.vals ps[i].2)[j]?
 | p :: r,0,_,j,hj => by
   unfold flatI
   rw [List.flatMap_cons,List.getElem?_append_left (by rw [Inf.len]; omega)]
   simp
 | p :: r,i + 1,hi,j,hj => by
   have h1 := flatI_at r i (by simpa using hi) j hj
   unfold flatI at h1 ⊢
   rw [List.flatMap_cons,List.getElem?_append_right (by rw [Inf.len]; omega),Inf.len,show (i + 1) * 25 + j - 25 = i * 25 + j by omega,h1]
   simp
theorem flatI_snoc (ps : List (Inf × IHd)) (x : Inf) (h : IHd) : flatI (ps ++ [(x,h)]) = flatI ps ++ x.vals h := by simp [flatI]
structure InRow (P : Nat → Prop) (B : Nat) (w : World) (v : Value) (ps : List (Inf × IHd)) : Prop where
 row : w.ownsRow B 46 25 v ps.length (flatI ps)
 own : ∀ q,v.ownBlock = some q → P q
 firm : ∀ p ∈ ps,FirmI P w p.1 p.2
theorem InRow.at {P : Nat → Prop} {B : Nat} {w : World} {v : Value} {ps : List (Inf × IHd)} (h : InRow P B w v ps) {k : Nat} (hk : k < ps.length) :
 ∃ g cap,v = .slice (some ⟨g,0,none⟩) ps.length cap ∧ w.rangeAt g (k * 25) (ps[k].1.vals ps[k].2) ∧ g < w.heap.size ∧ P g := by
 obtain ⟨g,cap,hv,_,hg⟩ := h.row.form (by omega)
 refine ⟨g,cap,hv,fun j u hu => ?_,hg,h.own g (by rw [hv]; rfl)⟩
 subst hv
 have hj : j < 25 := by have := (List.getElem?_eq_some_iff.1 hu).1; rw [Inf.len] at this; exact this
 have h1 := h.row.cells (g := g) rfl (k * 25 + j) u (by rw [flatI_at ps k hk j hj]; exact hu)
 rw [Addr.add_mid] at h1
 rw [Nat.zero_add] at h1
 exact h1
theorem InRow.nil {P : Nat → Prop} {B : Nat} {w : World} : InRow P B w (.slice none 0 0) [] := ⟨World.ownsRow_nil _ _ _ _,fun q hq => by simp [Value.ownBlock] at hq,fun p hp => by simp at hp⟩
theorem InRow.form {P : Nat → Prop} {B : Nat} {w : World} {v : Value} {ps : List (Inf × IHd)} (h : InRow P B w v ps) : ∃ a c,v = .slice a ps.length c := by
 obtain ⟨a,c,hv⟩ := row_slice h.row
 exact ⟨a,c,hv⟩
def GoodM (M : List Ent) : Prop := ∀ p ∈ M,p.2.1.rules.length ≤ 20 ∧ (p.2.1.kind ≠ 2 → p.2.1.height = 0) ∧
 (p.2.1.kind = 2 → p.2.1.va.may = true ∧ (∀ k ∈ p.2.1.va.nms,(lookE M k).isSome = true) ∧ p.2.1.height = maxH M p.2.1.va.nms + 1)
theorem lookE_more {M N : List Ent} {k : List UInt8} (h : (lookE M k).isSome = true) : lookE (M ++ N) k = lookE M k := by
 unfold lookE at *
 rw [List.find?_append]
 cases hf : M.find? fun p => ekey p == k with
 | none => rw [hf] at h; cases h
 | some p => rfl
theorem lookE_last {M : List Ent} {q : Ent} (h : lookE M (ekey q) = none) : lookE (M ++ [q]) (ekey q) = some q := by
 unfold lookE at *
 rw [List.find?_append,h]
 simp
theorem lookE_nodup : ∀ {M : List Ent},(M.map ekey).Nodup → ∀ k (h : k < M.length),lookE M (ekey M[k]) = some M[k]
 | [],_,k,h => by simp at h
 | p :: r,hn,0,_ => by simp [lookE]
 | p :: r,hn,k + 1,h => by
   rw [List.map_cons,List.nodup_cons] at hn
   have hk : k < r.length := by simpa using h
   have h1 := lookE_nodup hn.2 k hk
   have hne : ¬ ekey p = ekey r[k] := fun e => hn.1 (e ▸ List.mem_map_of_mem (List.getElem_mem hk))
   unfold lookE at h1 ⊢
   rw [List.getElem_cons_succ,List.find?_cons_of_neg (by simpa using hne)]
   exact h1
theorem maxH_more {M N : List Ent} {l : List (List UInt8)} (h : ∀ k ∈ l,(lookE M k).isSome = true) : maxH (M ++ N) l = maxH M l := by
 have key : ∀ (l : List (List UInt8)) (a : Int),(∀ k ∈ l,(lookE M k).isSome = true) → l.foldl (fun h k => max h (hof (M ++ N) k)) a = l.foldl (fun h k => max h (hof M k)) a := by
  intro l
  induction l with
  | nil => intro a _; rfl
  | cons x r ih =>
    intro a hh
    rw [List.foldl_cons,List.foldl_cons]
    have e : hof (M ++ N) x = hof M x := by unfold hof; rw [lookE_more (hh x (by simp))]
    rw [e]
    exact ih _ (fun k hk => hh k (by simp [hk]))
 exact key l 0 h
theorem wrong_known {L : List Ent} {x : Inf} (h : wrongL L [x] = 0) (hk : x.kind = 2) : x.va.may = true ∧ ∀ k ∈ x.va.nms,(lookE L k).isSome = true := by
 have h0 := wrongL_all h 0 (by simp)
 have h1 := wrongI_zero h0
 refine ⟨h1.2.2.2.2 _ (by simp [Inf.terms,Inf.hv,hk]),fun k hkm => ?_⟩
 unfold wrongI at h0
 split at h0
 ·simp at h0
 split at h0
 ·simp at h0
 split at h0
 ·simp at h0
 split at h0
 ·simp at h0
 split at h0
 ·simp at h0
 split at h0
 ·simp at h0
 split at h0
 ·simp at h0
 have h0' : wrongT L (names [x]) 0 x.params.toNat x = 0 := h0
 unfold wrongT at h0'
 split at h0'
 ·have h2 := firstE_all h0'.symm x.va (by simp [Inf.terms,Inf.hv,hk])
  have h3 : x.va.nms.all (known L (names [x]) 0 x.hv) = true := by
   unfold unk at h2
   cases hq : x.va.nms.all (known L (names [x]) 0 x.hv)
   ·rw [hq] at h2; simp at h2
   ·rfl
  have h4 := List.all_eq_true.1 h3 k hkm
  have hv : x.hv = true := by simp [Inf.hv,hk]
  unfold known at h4
  rw [hv] at h4
  simpa using h4
 ·rename_i h8; exact absurd h0' h8
theorem GoodM.snoc {M : List Ent} (h : GoodM M) {x : Inf} (hw : wrongL M [x] = 0) (hr : x.rules.length ≤ 20) (b : Nat) (hd : IHd) : GoodM (M ++ [(b,fixI M x,hd)]) := by
 intro p hp
 rcases List.mem_append.1 hp with hp | hp
 ·obtain ⟨h1,h2,h3⟩ := h p hp
  refine ⟨h1,h2,fun hk => ?_⟩
  obtain ⟨h4,h5,h6⟩ := h3 hk
  exact ⟨h4,fun k hkm => by rw [lookE_more (h5 k hkm)]; exact h5 k hkm,by rw [maxH_more h5]; exact h6⟩
 ·simp at hp
  subst hp
  refine ⟨hr,fun hk => ?_,fun hk => ?_⟩
  ·have hk2 : x.kind ≠ 2 := hk
   simp [fixI,hk2]
  ·have hk2 : x.kind = 2 := hk
   obtain ⟨h4,h5⟩ := wrong_known hw hk2
   have hv : x.hv = true := by simp [Inf.hv,hk2]
   have e : (fixI M x).va = x.va := by simp [fixI,hv]
   refine ⟨by rw [e]; exact h4,fun k hkm => ?_,?_⟩
   ·rw [e] at hkm
    rw [lookE_more (h5 k hkm)]; exact h5 k hkm
   ·rw [e,maxH_more h5]
    simp [fixI,hk2]
theorem addA_wrong {M : List Ent} {x : Inf} (h : addA M [x] = 0) : wrongL M [x] = 0 ∧ lookE M (key x.name) = none := by
 have h1 : wrongL M [x] = 0 := by
  unfold addA at h
  split at h
  ·simp at h
  ·exact h
 exact ⟨h1,(wrongI_zero (wrongL_all h1 0 (by simp))).2.1⟩
structure St (w0 W : World) (P : Nat → Prop) (e : Nat) (M : List Ent) (mo : Option Nat) (v vin : Value) (ps : List (Inf × IHd)) : Prop where
 env : EnvP P w0.heap.size W e M mo v
 base : ∀ q,P q → w0.heap.size ≤ q
 bel : Below w0.heap.size w0 W
 inr : InRow P w0.heap.size W vin ps
 apart : ∀ q,vin.ownBlock = some q → ¬ ownE e v mo q
 good : GoodM M
theorem St.below {w0 W W' : World} {P : Nat → Prop} {e : Nat} {M : List Ent} {mo : Option Nat} {v vin : Value} {ps : List (Inf × IHd)} (h : St w0 W P e M mo v vin ps) (b : Below W.heap.size W W') : St w0 W' P e M mo v vin ps :=
 ⟨h.env.below b,h.base,Trm.go h.bel b,⟨row_same h.inr.row (fun q hq => b.block q (h.inr.row.lt q hq).2),h.inr.own,fun p hp => (h.inr.firm p hp).step (RanS.of_below b)⟩,h.apart,h.good⟩
theorem St.arg {w0 W : World} {P : Nat → Prop} {e : Nat} {M : List Ent} {mo : Option Nat} {v vin : Value} {ps : List (Inf × IHd)} (h : St w0 W P e M mo v vin ps) {x : Inf} {hd : IHd} (i : x.In w0.heap.size w0 hd) : FirmI P W x hd := FirmI.of (i.below h.bel) h.base h.bel.size
def StAdd (w0 : World) (e : Nat) (M : List Ent) (vin : Value) (ps : List (Inf × IHd)) (x : Inf) (y : Ending) (W' : World) : Prop :=
 y = .returned (.int .i64 (addA M [x])) ∧ ∃ M' mo' v' P',(addA M [x] = 0 → ∃ b hd,M' = M ++ [(b,fixI M x,hd)]) ∧ (addA M [x] ≠ 0 → M' = M) ∧ St w0 W' P' e M' mo' v' vin ps
theorem St.add {w0 W : World} {P : Nat → Prop} {e : Nat} {M : List Ent} {mo : Option Nat} {v vin : Value} {ps : List (Inf × IHd)} (h : St w0 W P e M mo v vin ps) {x : Inf} {hd : IHd} (i : x.In w0.heap.size w0 hd) (hr : x.rules.length ≤ 20) :
 Calls Tryz.prog 20 #[.pointer (some ⟨e,0,none⟩),.slice (some ⟨W.heap.size,0,none⟩) 1 1] (W.alloc (.cells (x.vals hd).toArray 46)) (StAdd w0 e M vin ps x) := by
 have hb : Below W.heap.size W (W.alloc (.cells (x.vals hd).toArray 46)) := below_one _ _
 have h2 := h.below hb
 refine (addP_any h2.env [x] (some ⟨W.heap.size,0,none⟩) 1 (one_row (h.arg i) h.env.lt _) (by simp) (fun y hy => by simp at hy; subst hy; omega)).mono ?_
 rintro y W' ⟨hy,M',mo',v',P',hto,henv,hst,hran,hown,hsub⟩
 refine ⟨hy,M',mo',v',P',fun h0 => (hto.yes h0).one,fun h0 => hto.no h0,henv,fun q hq => ?_,?_,⟨row_same h2.inr.row (fun q hq => hran.block q (h2.inr.row.lt q hq).2 (h2.apart q hq)),fun q hq => hst.wide q (h2.inr.own q hq),fun p hp => hst.inf (h2.inr.firm p hp)⟩,fun q hq a => ?_,?_⟩
 ·have hs := h2.bel.size
  rcases hst.own q hq with a | a
  ·exact h.base q a
  ·omega
 ·exact h2.bel.trans (hst.ran.below h2.base h2.bel.size)
 ·rcases hown q a with b | b
  ·exact h2.apart q hq b
  ·have := (h2.inr.row.lt q hq).2; omega
 ·by_cases h0 : addA M [x] = 0
  ·obtain ⟨b,hd',rfl⟩ := (hto.yes h0).one
   exact h.good.snoc (addA_wrong h0).1 hr b hd'
  ·rw [hto.no h0]; exact h.good
theorem St.push {w0 W w1 : World} {P : Nat → Prop} {e : Nat} {M : List Ent} {mo : Option Nat} {v vin : Value} {ps : List (Inf × IHd)} (h : St w0 W P e M mo v vin ps) {x : Inf} {hd : IHd} (hf : FirmI P W x hd) {g cap n : Nat} (hn : n = ps.length)
 (hown : w1.ownsRow w0.heap.size 46 25 (.slice (some ⟨g,0,none⟩) (n + 1) cap) (n + 1) (flatI ps ++ x.vals hd)) (hg : W.grownBy w1 vin.ownBlock) (hat : vin.ownBlock = some g ∨ g = W.heap.size) (hlt : g < w1.heap.size) :
 ∃ P',St w0 w1 P' e M mo v (.slice (some ⟨g,0,none⟩) (n + 1) cap) (ps ++ [(x,hd)]) := by
 subst hn
 have hr : RanS (fun q => vin.ownBlock = some q) W w1 := ⟨hg.os,hg.tape,hg.output,hg.size,fun k hk hn => hg.block k hk (fun a => hn a.symm)⟩
 have hP : ∀ q,(P q ∨ q = g) → P q ∨ W.heap.size ≤ q := fun q hq => by
  rcases hq with a | a
  ·exact Or.inl a
  ·rcases hat with b | b
   ·exact Or.inl (h.inr.own q (a ▸ b))
   ·exact Or.inr (by omega)
 have hrP : RanS P W w1 := hr.wide (fun q a => h.inr.own q a)
 refine ⟨fun q => P q ∨ q = g,h.env.other hr (fun q a => h.inr.own q a) (fun q a b => h.apart q b a) hP (fun q a => Or.inl a) (fun q hq => ?_),fun q hq => ?_,h.bel.trans (hrP.below h.base h.bel.size),⟨?_,fun q hq => ?_,fun p hp => ?_⟩,fun q hq a => ?_,h.good⟩
 ·rcases hq with a | a
  ·exact Nat.lt_of_lt_of_le (h.env.lt q a) hr.size
  ·omega
 ·rcases hP q hq with a | a
  ·exact h.base q a
  ·exact Nat.le_trans h.bel.size a
 ·rw [List.length_append,List.length_singleton,flatI_snoc]; exact hown
 ·injection hq with hq
  exact Or.inr hq.symm
 ·rcases List.mem_append.1 hp with hp | hp
  ·exact (h.inr.firm p hp).turn hrP hP
  ·simp at hp
   subst hp
   exact hf.turn hrP hP
 ·injection hq with hq
  have hq2 : g = q := hq
  subst hq2
  rcases hat with b | b
  ·exact h.apart g b a
  ·have := h.env.lt g (h.env.own g a); omega
theorem St.hold {w0 W : World} {P : Nat → Prop} {e : Nat} {M : List Ent} {mo : Option Nat} {v vin : Value} {ps : List (Inf × IHd)} (h : St w0 W P e M mo v vin ps) : ∀ p ∈ M,p.2.1.rules.length ≤ 1000 := fun p hp => by have := (h.good p hp).1; omega
end Env
end Go.Proofs.YtiekbhlnnmnklaaGreat
namespace Go.Proofs.YtiekbhlnnmnklaaGreat
open Go.RowKit Go.Shelf Go.Maps Lvl Trm Env
namespace Env
theorem formC_zero : ∀ ps : List (Int × Int),formC 0 ps = 0
 | [] => rfl
 | x :: r => by
   show formC (if (0 : Int) ≤ x.2 then 0 else 0) r = 0
   rw [ite_self]
   exact formC_zero r
theorem formC_or (c : Int) : ∀ ps : List (Int × Int),formC c ps = c ∨ formC c ps = 0
 | [] => Or.inl rfl
 | x :: r => by
   show formC (if c ≤ x.2 then 0 else c) r = c ∨ formC (if c ≤ x.2 then 0 else c) r = 0
   by_cases h : c ≤ x.2
   ·rw [if_pos h]; exact Or.inr (formC_zero r)
   ·rw [if_neg h]; exact formC_or c r
theorem form_may {l : Lv} (h : l.form.within = true) : l.form.may = true := by
 have e : formC (formC l.c l.ps) l.ps = formC l.c l.ps := by
  rcases formC_or l.c l.ps with a | a
  ·rw [a,a]
  ·rw [a,formC_zero]
 unfold Lv.may
 rw [h]
 show (l.form.c == formC (formC l.c l.ps) l.ps) = true
 rw [e]
 exact beq_self_eq_true _
theorem ok_may {L : List Lv} {l : Lv} (h : okL L l) : (fL L l).may = true := by
 unfold okL inst at h
 unfold fL inst
 by_cases h1 : l.may = true ∧ L.all Lv.may = true
 ·rw [if_pos h1] at h ⊢
  cases ha : instAll L (number l.c) l.ps with
  | none => rw [ha] at h; simp at h
  | some o =>
    rw [ha] at h
    simp only at h ⊢
    unfold ans at h ⊢
    by_cases h2 : o.form.within = true
    ·rw [if_pos h2]; exact form_may h2
    ·rw [if_neg h2] at h; simp at h
 ·rw [if_neg h1] at h; simp at h
theorem lmapL_len (f : Lv → Lv) : ∀ ts : List Tm,(lmapL f ts).length = ts.length
 | [] => rfl
 | t :: r => by rw [lmapL,List.length_cons,List.length_cons,lmapL_len f r]
theorem lmap_node {f : Lv → Lv} {k n : Int} {s : ByteArray} {ls : List Lv} {ts : List Tm} (h : (Tm.mk k n s ls ts).node = true) (ha : ∀ l ∈ ls,(f l).may = true) : (Tm.mk k n s (ls.map f) (lmapL f ts)).node = true := by
 unfold Tm.node at h ⊢
 have e1 : (Tm.mk k n s (ls.map f) (lmapL f ts)).ts.length = ts.length := lmapL_len f ts
 have e2 : (Tm.mk k n s (ls.map f) (lmapL f ts)).ls.length = ls.length := List.length_map _
 have e3 : (Tm.mk k n s (ls.map f) (lmapL f ts)).ls.all Lv.may = true := by
  show (ls.map f).all Lv.may = true
  rw [List.all_map,List.all_eq_true]
  exact ha
 have e4 : (Tm.mk k n s ls ts).ls.all Lv.may = true := by
  simp only [Bool.and_eq_true] at h
  exact h.1.1.1.2
 rw [e1,e2,e3]
 rw [e4] at h
 exact h
mutual
theorem lmap_left {f : Lv → Lv} : ∀ (t : Tm) (l d : Int),0 ≤ t.left (fun x => !x.node) l d → t.allL (fun x => (f x).may = true) → (t.lmap f).left (fun x => !x.node) l d = t.left (fun x => !x.node) l d
 | .mk k n s ls ts,l,d,h,ha => by
   rw [Tm.allL] at ha
   rw [Tm.left] at h
   by_cases hb : l - 1 < 0 ∨ d ≤ 0 ∨ (fun x : Tm => !x.node) (.mk k n s ls ts) = true
   ·rw [if_pos hb] at h; omega
   ·rw [if_neg hb] at h
    rw [Tm.lmap,Tm.left,Tm.left,if_neg hb]
    have hn : (Tm.mk k n s ls ts).node = true := by
     cases hq : (Tm.mk k n s ls ts).node
     ·exact absurd (Or.inr (Or.inr (by simp [hq]))) hb
     ·rfl
    have hb2 : ¬ (l - 1 < 0 ∨ d ≤ 0 ∨ (fun x : Tm => !x.node) (.mk k n s (ls.map f) (lmapL f ts)) = true) := by
     rintro (a | a | a)
     ·exact hb (Or.inl a)
     ·exact hb (Or.inr (Or.inl a))
     ·simp [lmap_node hn ha.1] at a
    rw [if_neg hb2]
    exact lmapL_left ts (l - 1) (d - 1) h ha.2
theorem lmapL_left {f : Lv → Lv} : ∀ (ts : List Tm) (l d : Int),0 ≤ leftL (fun x => !x.node) ts l d → allLL (fun x => (f x).may = true) ts → leftL (fun x => !x.node) (lmapL f ts) l d = leftL (fun x => !x.node) ts l d
 | [],l,d,_,_ => by rw [lmapL]
 | t :: r,l,d,h,ha => by
   rw [allLL] at ha
   rw [leftL] at h
   by_cases h0 : t.left (fun x => !x.node) l d < 0
   ·rw [if_pos h0] at h; omega
   ·rw [if_neg h0] at h
    rw [lmapL,leftL,lmap_left t l d (by omega) ha.1,if_neg h0,leftL,if_neg h0]
    exact lmapL_left r _ d h ha.2
end
mutual
theorem allL_ok {L : List Lv} : ∀ t : Tm,t.allL (okL L) → t.allL (fun x => (fL L x).may = true)
 | .mk k n s ls ts,h => by
   rw [Tm.allL] at h ⊢
   exact ⟨fun l hl => ok_may (h.1 l hl),allLL_ok ts h.2⟩
theorem allLL_ok {L : List Lv} : ∀ ts : List Tm,allLL (okL L) ts → allLL (fun x => (fL L x).may = true) ts
 | [],_ => by rw [allLL]; trivial
 | t :: r,h => by
   rw [allLL] at h ⊢
   exact ⟨allL_ok t h.1,allLL_ok r h.2⟩
end
theorem lev_same {t : Tm} (ht : t.may = true) (L : List Lv) : levelsAns t L = levB L t := by
 unfold levB
 by_cases he : t.lerr L = 0
 ·rw [if_pos he]
  have ha := allL_lerr t he
  have h0 : 0 ≤ t.left (fun x => !x.node) 65536 4096 := of_decide_eq_true ht
  refine levels_is ht ha rfl ?_
  unfold Tm.may
  rw [lmap_left t 65536 4096 h0 (allL_ok t ha)]
  exact decide_eq_true h0
 ·rw [if_neg he]
  have h0 := thr_err (L := L) t L 1 0 (OkMay.start ht) (.inl rfl)
  unfold levelsAns ansT
  rw [if_neg (by rw [ht]; simp),h0,if_pos he]
end Env
end Go.Proofs.YtiekbhlnnmnklaaGreat
