/-
 EnvPlays: whatever is added,by itself or together: each answer,all names and infos,types,values and heights of any term,are the document's.
-/
import Derived.Lib.Hide
import Derived.Test.YtiekbhlnnmnklaaGreatQB1
import Derived.Test.YtiekbhlnnmnklaaGreatQEnvPlyM
import Derived.Test.YtiekbhlnnmnklaaGreatQB30
import Derived.Test.YtiekbhlnnmnklaaGreatQB31
import Derived.Test.YtiekbhlnnmnklaaGreatQB20
import Derived.Test.YtiekbhlnnmnklaaGreatQB19
import Derived.Test.YtiekbhlnnmnklaaGreatQB13
open Go.Lib (hid)
set_option maxRecDepth 100000
set_option maxHeartbeats 32000000
namespace Go.Proofs.YtiekbhlnnmnklaaGreat
open Go.RowKit Go.Shelf Go.Maps Lvl Trm Env
theorem law_env_plays (l : List Inf) (lo : Option Addr) (lc : Nat) (zs : List Int) (po : Option Addr) (pc : Nat) (t : Tm) (ht : Hd) (w : World) (hrow : InfRow w.heap.size w lo l) (hlc : l.length ≤ lc) (hzs : BRow w.heap.size w po zs) (hin : t.In w.heap.size w ht) (hcap : t.ls.length ≤ ht.lc) :
 Calls Tryz.prog 3 #[.slice lo l.length lc,.slice po zs.length pc,t.val ht] w fun e w' => e = .returned (.bool true) ∧ Below w.heap.size w w' := by
 obtain ⟨WA,hWA⟩ : ∃ WA,WA = w.alloc (t.box ht) := ⟨_,rfl⟩
 have HBA := hid (show Below w.heap.size w WA from hWA ▸ below_one _ _)
 have HBX := hid (show WA.heap[w.heap.size]? = some (t.box ht) from hWA ▸ World.alloc_heap_new w _)
 have HROW := hid (show InfRow WA.heap.size WA lo l from hrow.carry HBA.out)
 have HLC := hid hlc
 have HZS := hid (hzs.carry HBA.out)
 have HIN := hid hin
 have HCAP := hid hcap
 have HFW := hid (few_any l lo lc WA (hrow.carry HBA.out))
 have HIA := hid (show t.In WA.heap.size WA ht from carry hin HBA.out)
 have HDP := hid (fun (W : World) (hW : Below WA.heap.size WA W) => Deep_any t ht W (carry HIA.out hW))
 have hmin := @run_min
 obtain ⟨x0,x1,x2,x3,x4⟩ := Tm.cells HBX.out
 clear hrow hlc hzs hin hcap
 have HKR : ∀ {x : Inf} {h : IHd},Hid ((Tryz.prog.info? 46).map (·.size) = some (x.vals h).toArray.size) := fun {x h} => hid infoInf
 have HKL : ∀ {x : Inf} {h : IHd},Hid ((Tryz.prog.info? 46).map (·.size) = some (x.vals h).length) := fun {x h} => hid infoInf
 have HKZ : Hid (∀ (x : Inf) (h : IHd),Inf.zeros.size = (x.vals h).toArray.size) := hid (fun _ _ => rfl)
 have HKO : Hid (∀ (x : Inf) (h : IHd),(x.vals h).toArray.all (·.oneCell') = true) := hid (fun x h => vals_one x h)
 have HKS : Hid (∀ (x : Inf) (h : IHd),∀ u ∈ x.vals h,u.oneCell' = true) := hid (fun x h u hu => by have := vals_one x h; rw [List.all_toArray,List.all_eq_true] at this; exact this u hu)
 unfold Tm.val Tm.vals at *
 go_enter Tryz.func3,Tryz.ntmps3
 unfold Tm.box Tm.vals at hWA
 go_upto_region 1 with fail
 rw [← hWA]
 clear hWA
 go_wp2_with fail
 refine HFW.out.mono ?_
 rintro y w1 ⟨b,rfl,hfew,b1⟩
 have HFEW := hid hfew
 have HB1 := hid (show Below WA.heap.size WA w1 from b1)
 have HX1 := hid (Lvl.keep b1 HBX.out)
 clear b1 hfew x0 x1 x2 x3 x4
 cases b
 ·go_wp2_with fail
  refine (works7_any _).mono ?_
  rintro y wz ⟨rfl,bz⟩
  have HBZ := hid (Trm.go HBA.out (Trm.go HB1.out bz))
  clear bz
  go_wp2_with fail
  go_ret
  exact ⟨rfl,HBZ.out⟩
 ·have HF := hid (HFEW.out rfl)
  clear HFEW
  by_cases hmany : (60 : Int) < zs.length
  ·have hd : decide ((60 : Int) < zs.length) = true := by simpa using hmany
   clear hmany
   go_wp2_with fail
   refine (works7_any _).mono ?_
   rintro y wz ⟨rfl,bz⟩
   have HBZ := hid (Trm.go HBA.out (Trm.go HB1.out bz))
   clear bz
   go_wp2_with fail
   go_ret
   exact ⟨rfl,HBZ.out⟩
  ·have hd : decide ((60 : Int) < zs.length) = false := by simpa using hmany
   have HZL : Hid (zs.length ≤ 60) := hid (by omega)
   have HDP1 := hid (HDP.out w1 HB1.out)
   obtain ⟨x0,x1,x2,x3,x4⟩ := Tm.cells HX1.out
   clear hmany
   cases hdeep : t.deep
   ·rw [hdeep] at HDP1
    have HDE := hid hdeep
    clear hdeep
    go_wp2_with fail
    refine HDP1.out.mono ?_
    rintro y w2 ⟨rfl,b2⟩
    have HB2 := hid (Trm.go HB1.out b2)
    have HX2 := hid (Lvl.keep b2 HX1.out)
    clear b2 x0 x1 x2 x3 x4 hd
    go_wp2_with fail
    refine (envNew_any _).mono ?_
    rintro y w3 ⟨rfl,hw3⟩
    have hM3 := (show Many WA w3 _ ([] ++ [⟨w2.heap.size,[],none,.slice none 0 0⟩]) from hw3 ▸ ((Many.start WA).below HB2.out).new)
    have HX3 := hid (show w3.heap[w.heap.size]? = some (t.box ht) from hw3 ▸ Lvl.keep (below_one _ _) HX2.out)
    obtain ⟨ea,hea⟩ : ∃ q,q = w2.heap.size := ⟨_,rfl⟩
    rw [← hea] at hM3 ⊢
    have HM3 := hid (show Many WA w3 _ [⟨ea,[],none,.slice none 0 0⟩] from hM3)
    clear hM3 hw3 hea
    go_upto_region 5 with fail
    obtain ⟨W4,hW4⟩ : ∃ W,W = w3.alloc (.cells #[.slice none 0 0] 35) := ⟨_,rfl⟩
    have hP4 := (show Ply WA W4 _ [⟨ea,[],none,.slice none 0 0⟩] w3.heap.size (.slice none 0 0) [] from hW4 ▸ Ply.start HM3.out)
    have HX4 := hid (show W4.heap[w.heap.size]? = some (t.box ht) from hW4 ▸ Lvl.keep (below_one _ _) HX3.out)
    obtain ⟨r,hr⟩ : ∃ q,q = w3.heap.size := ⟨_,rfl⟩
    rw [← hr] at hP4 ⊢
    rw [← hW4]
    have H0 : Hid (P1Rel WA ea r l zs.length (.int .i64 (0 : Nat)) (.int .i64 (0 : Nat)) W4) := hid ⟨0,0,[],none,_,_,[],_,rfl,rfl,by omega,by omega,fun p hp => by simp at hp,rfl,hP4⟩
    clear hW4 hP4 hr HM3
    go_upto_region 7 with fail
    go_loopw [9,10] (fun va vi wr => P1Rel WA ea r l zs.length va vi wr ) (fun _ i _ => zs.length - (intOf i).toNat)
    case atStart => exact H0.out
    case round =>
     obtain ⟨k,at_,M,mo,v,vr,ps,P,rfl,rfl,hk,hat,hfine,hinf,hply⟩ := hrel
     have HPL := hid hply
     have HINF := hid hinf
     have HFIN := hid hfine
     have HAT := hid hat
     clear hply hinf hfine H0 hat
     by_cases hlt : k < zs.length
     ·obtain ⟨b,off,hpo,hb,hc,hz0,hz1⟩ := HZS.out.place k hlt
      subst hpo
      obtain ⟨m,hmn,hkm,hq0,hq3⟩ := part_to (z := zs[k]) (n := l.length) HAT.out
      have hcz : wr.cell? ⟨b,off + k,none⟩ = some (.int .u8 zs[k]) := (HPL.out.many.bel.cell (p := ⟨b,off + k,none⟩) hb).trans hc
      generalize zs[k] = z at hmn hq0 hq3 hcz hz0 hz1
      have HLT := hid hlt
      have HKM := hid hkm
      have hkb : k < 1000000 := by have := HZL.out; omega
      have hzc : IntKind.i64.wrap z = z := IntWalk.i64_in _ (by omega)
      have HLL : Hid (l.length ≤ 40) := hid HF.out.1
      have hzq : wrap64 ((at_ : Int) + z % 4) = (at_ : Int) + z % 4 := IntWalk.wrap64_in _ (by have := HAT.out; have := HLL.out; omega)
      have hzq2 : IntKind.i64.wrap ((at_ : Int) + z % 4) = (at_ : Int) + z % 4 := IntWalk.i64_in _ (by have := HAT.out; have := HLL.out; omega)
      clear hc hb hkm
      go_upto_region 10 with fail
      clear hcz hzc hzq hzq2 hz0 hz1 hq0 hq3 hmn
      have HLSA := hid (show Calls Tryz.prog 18 #[.pointer (some ⟨ea,0,none⟩)] wr (fun y w' => ∃ a c,y = .returned (.slice a M.length c) ∧ Below wr.heap.size wr w') from (list_any (HPL.out.many.env ⟨ea,M,mo,v⟩ (List.mem_cons_self ..)).env).mono (fun y w' h => by
       obtain ⟨v',rfl,hr,hb⟩ := h
       obtain ⟨a,c,rfl⟩ := row_slice hr
       exact ⟨a,c,rfl,hb⟩))
      go_wp2_with fail
      refine HLSA.out.mono ?_
      rintro y w4 ⟨a4,c4,rfl,b4⟩
      have HP4 := hid (HPL.out.below b4)
      clear b4 HPL HLSA
      have hsl1 : (0 : Int) ≤ (at_ : Int) := by omega
      have hsl2 : (at_ : Int) ≤ (at_ : Int) + (m : Int) := by omega
      have hsl3 : (at_ : Int) + (m : Int) ≤ (lc : Int) := by have := HKM.out; have := HLC.out; omega
      obtain ⟨so,sc,hso,hsub,hmsc⟩ : ∃ (so : Option Addr) (sc : Nat),(∀ W : World,(Instr.slice 22 (.slice lo l.length lc) (some (.int .i64 (at_ : Int))) (some (.int .i64 ((at_ : Int) + (m : Int)))) none).run Tryz.prog W = .ok (.slice so m sc) W) ∧ InfRow WA.heap.size WA so ((l.drop at_).take m) ∧ m ≤ sc := slice_infos2 hsl1 hsl2 hsl3 HROW.out HKM.out
      have HSUB := hid hsub
      have hlen : ((l.drop at_).take m).length = m := by rw [List.length_take,List.length_drop]; have := HKM.out; omega
      have HLEN := hid hlen
      have HMSC := hid hmsc
      clear hsl1 hsl2 hsl3 hsub hlen hmsc
      obtain ⟨S,hS⟩ : ∃ S,S = (l.drop at_).take m := ⟨_,rfl⟩
      rw [← hS] at HSUB HLEN
      have HS20 : Hid (∀ x ∈ S,x.rules.length ≤ 20) := hid (fun x hx => (HF.out.2 x (by rw [hS] at hx; exact List.mem_of_mem_drop (List.mem_of_mem_take hx))).1)
      have HSR : Hid (∀ x ∈ S,x.rules.length ≤ 1000) := hid (fun x hx => by have := HS20.out x hx; omega)
      have HSL : Hid (S.length ≤ 1000) := hid (by have := HLEN.out; have := HKM.out; have := HLL.out; omega)
      have HFI := hid (fun (W : World) (P' : Nat → Prop) (X : List EnvR) (vr' : Value) (ps' : List (Inf × IHd)) (hp : Ply WA W P' X r vr' ps') => (InfFirm.of (HSUB.out.below hp.many.bel) hp.many.base hp.many.bel.size : InfFirm P' W so S))
      have HWI := hid (show Calls Tryz.prog 19 #[.pointer (some ⟨ea,0,none⟩),.slice so m sc] w4 (PlyWith WA P [⟨ea,M,mo,v⟩] r vr ps ⟨ea,M,mo,v⟩ S w4) from by
       have h0 := HP4.out.with_ (i := 0) (by simp) S so sc (HFI.out _ _ _ _ _ HP4.out) (by have := HSL.out; omega) HSR.out
       rw [HLEN.out] at h0
       exact h0)
      have HEQ : Hid (addA (entI (infR ps)) S = addA M S) := hid (addA_alike (by rw [infs_entI]; exact HINF.out.symm) S)
      clear hS
      go_wp2_with fail
      refine HWI.out.mono ?_
      rintro y w5 hwith
      obtain ⟨zc,hzc⟩ : ∃ q,q = addA M S := ⟨_,rfl⟩
      have HZC := hid hzc
      rcases hwith with ⟨hne,rfl,hp5,hs5⟩ | ⟨hz,e',M5,mo5,v5,P5,rfl,hadd,hp5,hs5⟩
      ·have HP5 := hid hp5
       dsimp only
       rw [← hzc]
       have hne2 : zc ≠ 0 := by rw [hzc]; exact hne
       have hzb : (zc != 0) = true := by simpa using hne2
       have hzb2 : (zc == 0) = false := by simpa using hne2
       clear hne hp5 hs5 hzc hne2
       have HAD := hid (show Calls Tryz.prog 20 #[.pointer (some ⟨ea,0,none⟩),.slice so m sc] w5 (PlyAdd WA P [⟨ea,M,mo,v⟩] r vr ps 0 ⟨ea,M,mo,v⟩ S w5) from by
        have h0 := HP5.out.add (i := 0) (by simp) S so sc (HFI.out _ _ _ _ _ HP5.out) (by have := HSL.out; omega) HSR.out
        rw [HLEN.out] at h0
        exact h0)
       go_wp2_with fail
       refine HAD.out.mono ?_
       rintro y w6 ⟨rfl,M6,mo6,v6,P6,ht6,hp6,hs6⟩
       have HP6 := hid (show Ply WA w6 P6 [⟨ea,M6,mo6,v6⟩] r vr ps from hp6)
       have HT6 := hid ht6
       dsimp only
       rw [← HZC.out]
       clear hp6 hs6 ht6
       have HRD := hid (show Calls Tryz.prog 21 #[.pointer (some ⟨r,0,none⟩),.slice so m sc] w6 (PlyRef WA P6 [⟨ea,M6,mo6,v6⟩] r ps S w6) from by
        have h0 := HP6.out.radd S so sc (HFI.out _ _ _ _ _ HP6.out) (by have := HLEN.out; have := HMSC.out; omega) HSL.out HSR.out
        rw [HLEN.out] at h0
        exact h0)
       go_wp2_with fail
       refine HRD.out.mono ?_
       rintro y w7 ⟨rfl,v7,ps7,P7,hp7,hin7,hs7⟩
       have HP7 := hid hp7
       have HIN7 := hid hin7
       rw [HEQ.out,← HZC.out]
       clear hp7 hin7 hs7
       have HLS7 := hid (show Calls Tryz.prog 18 #[.pointer (some ⟨ea,0,none⟩)] w7 (fun y w' => ∃ a c,y = .returned (.slice a M6.length c) ∧ Below w7.heap.size w7 w') from (list_any (HP7.out.many.env ⟨ea,M6,mo6,v6⟩ (List.mem_cons_self ..)).env).mono (fun y w' h => by
        obtain ⟨v',rfl,hr,hb⟩ := h
        obtain ⟨a,c,rfl⟩ := row_slice hr
        exact ⟨a,c,rfl,hb⟩))
       have hlen6 : decide ((M6.length : Int) < (M.length : Int)) = false := decide_eq_false (by have := HT6.out.len; omega)
       have hlen7 : (M6.length < M.length) = False := eq_false (by have := HT6.out.len; omega)
       go_wp2_with fail
       refine HLS7.out.mono ?_
       rintro y w8 ⟨a8,c8,rfl,b8⟩
       have HP8 := hid (HP7.out.below b8)
       have HNX : Hid (∀ z : Int,z = (k : Int) + 1 → P1Rel WA ea r l zs.length (.int .i64 ((at_ : Int) + (m : Int))) (.int .i64 z) w8) := hid (fun z hz => ⟨k + 1,at_ + m,M6,mo6,v6,v7,ps7,P7,by rw [hz]; rfl,by rw [Int.natCast_add],HLT.out,HKM.out,HT6.out.fine HS20.out HFIN.out,HT6.out.infR_is HINF.out HIN7.out,HP8.out⟩)
       clear b8
       have hwk := (wk_two hkb).1
       have hwk2 := (wk_two hkb).2
       go_wp2_with fail
       go_roundw
       case rel => first | exact HNX.out _ rfl | exact HNX.out _ hwk
       case measure => first | exact less_step rfl HLT.out | exact less_step hwk HLT.out
      ·have HP5 := hid (show Ply WA w5 P5 [⟨ea,M,mo,v⟩,⟨e',M5,mo5,v5⟩] r vr ps from hp5)
       have HZ0 := hid hz
       dsimp only
       clear hz hadd hp5 hs5 hzc HZC zc
       have HAD := hid (show Calls Tryz.prog 20 #[.pointer (some ⟨ea,0,none⟩),.slice so m sc] w5 (PlyAdd WA P5 [⟨ea,M,mo,v⟩,⟨e',M5,mo5,v5⟩] r vr ps 0 ⟨ea,M,mo,v⟩ S w5) from by
        have h0 := HP5.out.add (i := 0) (by simp) S so sc (HFI.out _ _ _ _ _ HP5.out) (by have := HSL.out; omega) HSR.out
        rw [HLEN.out] at h0
        exact h0)
       go_wp2_with fail
       refine HAD.out.mono ?_
       rintro y w6 ⟨rfl,M6,mo6,v6,P6,ht6,hp6,hs6⟩
       have HP6 := hid (show Ply WA w6 P6 [⟨ea,M6,mo6,v6⟩,⟨e',M5,mo5,v5⟩] r vr ps from hp6)
       have HT6 := hid ht6
       dsimp only
       rw [HZ0.out]
       clear hp6 hs6 ht6
       have HRD := hid (show Calls Tryz.prog 21 #[.pointer (some ⟨r,0,none⟩),.slice so m sc] w6 (PlyRef WA P6 [⟨ea,M6,mo6,v6⟩,⟨e',M5,mo5,v5⟩] r ps S w6) from by
        have h0 := HP6.out.radd S so sc (HFI.out _ _ _ _ _ HP6.out) (by have := HLEN.out; have := HMSC.out; omega) HSL.out HSR.out
        rw [HLEN.out] at h0
        exact h0)
       go_wp2_with fail
       refine HRD.out.mono ?_
       rintro y w7 ⟨rfl,v7,ps7,P7,hp7,hin7,hs7⟩
       have HP7 := hid hp7
       have HIN7 := hid hin7
       rw [HEQ.out,HZ0.out]
       clear hp7 hin7 hs7
       have HLS7 := hid (show Calls Tryz.prog 18 #[.pointer (some ⟨ea,0,none⟩)] w7 (fun y w' => ∃ a c,y = .returned (.slice a M6.length c) ∧ Below w7.heap.size w7 w') from (list_any (HP7.out.many.env ⟨ea,M6,mo6,v6⟩ (List.mem_cons_self ..)).env).mono (fun y w' h => by
        obtain ⟨v',rfl,hr,hb⟩ := h
        obtain ⟨a,c,rfl⟩ := row_slice hr
        exact ⟨a,c,rfl,hb⟩))
       have hlen6 : decide ((M6.length : Int) < (M.length : Int)) = false := decide_eq_false (by have := HT6.out.len; omega)
       have hlen7 : (M6.length < M.length) = False := eq_false (by have := HT6.out.len; omega)
       go_wp2_with fail
       refine HLS7.out.mono ?_
       rintro y w8 ⟨a8,c8,rfl,b8⟩
       have HP8 := hid (HP7.out.below b8)
       clear b8 HP7
       go_wp2_with fail
       refine (SE_any _).mono ?_
       rintro y w9 ⟨hS9,rfl,b9,f9⟩
       have HP9 := hid (HP8.out.below b9)
       have FS9 := hid (ax_firm (s := ⟨#[113,113,39,113]⟩) (by decide) (f9 P7 HP8.out.many.lt))
       have HAO := hid (show Calls Tryz.prog 20 #[.pointer (some ⟨e',0,none⟩),.slice (some ⟨w9.heap.size,0,none⟩) 1 1] (w9.alloc (.cells ((ax ⟨#[113,113,39,113]⟩ tS).vals { zIHd with ty := hS9 }).toArray 46)) (PlyAdd WA P7 [⟨ea,M6,mo6,v6⟩,⟨e',M5,mo5,v5⟩] r v7 ps7 1 ⟨e',M5,mo5,v5⟩ [ax ⟨#[113,113,39,113]⟩ tS] w9) from HP9.out.addOne (i := 1) (by simp) FS9.out (by decide))
       clear b9 f9
       go_wp2_with (first
        | (refine wpList_buildTo rfl 46 _ rfl (some 116) rfl ((ax ⟨#[113,113,39,113]⟩ tS).vals { zIHd with ty := hS9 }).toArray (by kernel_rfl) ?_)
        | (refine Go.Great.wpList_buildSliceTo rfl 22 46 1 _ rfl w9.heap.size rfl (some 117) rfl Tryz.underlying22 ((ax ⟨#[113,113,39,113]⟩ tS).vals { zIHd with ty := hS9 }).toArray (by kernel_rfl) ?_))
       refine HAO.out.mono ?_
       rintro y w10 ⟨rfl,L10,mo10,v10,P10,ht10,hp10,hs10⟩
       have HP10 := hid (show Ply WA w10 P10 ([⟨ea,M6,mo6,v6⟩] ++ [⟨e',L10,mo10,v10⟩]) r v7 ps7 from hp10)
       have HNX : Hid (∀ z : Int,z = (k : Int) + 1 → P1Rel WA ea r l zs.length (.int .i64 ((at_ : Int) + (m : Int))) (.int .i64 z) w10) := hid (fun z hz => ⟨k + 1,at_ + m,M6,mo6,v6,v7,ps7,P10,by rw [hz]; rfl,by rw [Int.natCast_add],HLT.out,HKM.out,HT6.out.fine HS20.out HFIN.out,HT6.out.infR_is HINF.out HIN7.out,HP10.out.drop⟩)
       clear ht10 hp10 hs10 HAO FS9 HP9
       have hwk := (wk_two hkb).1
       have hwk2 := (wk_two hkb).2
       dsimp only
       go_wp2_with fail
       go_roundw
       case rel => first | exact HNX.out _ rfl | exact HNX.out _ hwk
       case measure => first | exact less_step rfl HLT.out | exact less_step hwk HLT.out
     ·have hke : k = zs.length := by omega
      subst hke
      have HF2 : Hid (∀ q ∈ M,q.2.1.rules.length ≤ 1000) := hid (fun q hq => by have := (HFIN.out q hq).1; omega)
      obtain ⟨NM,hNM⟩ : ∃ q,q = nms M := ⟨_,rfl⟩
      have HNM := hid hNM
      have HNF : Hid (NM.length ≤ 4096) := hid (by rw [hNM,nms_len]; exact (HPL.out.many.env ⟨ea,M,mo,v⟩ (List.mem_cons_self ..)).env.few)
      have HNP : Hid (ps.length = NM.length) := hid (by rw [hNM,nms_len]; have := congrArg List.length HINF.out; simpa [infs,infR] using this.symm)
      clear hNM hlt hk
      go_wp2_with fail
      refine (list_str (HPL.out.many.env ⟨ea,M,mo,v⟩ (List.mem_cons_self ..)).env HNM.out).mono ?_
      rintro y w4 ⟨a4,c4,rfl,s4,b4⟩
      have HP4 := hid (HPL.out.below b4)
      have HS4 := hid s4
      clear b4 s4 HPL
      obtain ⟨av,cv,hv⟩ := HP4.out.ref.inr.form
      rw [HNP.out] at hv
      have hb4 := HP4.out.ref.box
      rw [hv] at hb4
      have cr : w4.cell? ⟨r,0,none⟩ = some (.slice av NM.length cv) := by simp [World.cell?,hb4]
      have HV := hid hv
      have H0 : Hid (P2Rel WA P [⟨ea,M,mo,v⟩] r vr ps a4 NM (.int .i64 (0 : Nat)) w4) := hid ⟨0,rfl,by omega,HP4.out,HS4.out⟩
      clear hv hb4
      go_upto_region 22 with fail
      clear cr
      go_loopw [17] (fun vi wr => P2Rel WA P [⟨ea,M,mo,v⟩] r vr ps a4 NM vi wr) (fun i _ => NM.length - (intOf i).toNat)
      case atStart => exact H0.out
      case round =>
       obtain ⟨j,rfl,hj,hply,hstr⟩ := hrel
       have HPL := hid hply
       have HSR := hid hstr
       clear hply hstr H0 HP4 HS4
       by_cases hlj : j < NM.length
       ·obtain ⟨x,p,hj2,hxn,hlp,hpx,hpm,hpj⟩ := play_look HNM.out HINF.out (HPL.out.many.env ⟨ea,M,mo,v⟩ (List.mem_cons_self ..)).env.nodup hlj
        have HXN : Hid (x.name.size ≤ maxLen) := hid (by have h0 := ((HPL.out.many.env ⟨ea,M,mo,v⟩ (List.mem_cons_self ..)).ent p hpm).2.fit.name; rw [hpx] at h0; unfold maxLen; omega)
        have HX20 : Hid (x.rules.length ≤ 1000) := hid (hpx ▸ HF2.out p hpm)
        obtain ⟨ga,hga,hgas,hca⟩ := HSR.out j hlj
        rw [hxn] at hca
        obtain ⟨g,cap,hvg,hrg,hgs,_⟩ := HPL.out.ref.inr.at hj2
        have hfx := HPL.out.ref.inr.firm ps[j] (List.getElem_mem hj2)
        rw [hpj] at hrg hfx
        obtain ⟨hB,hhB⟩ : ∃ q,q = ps[j].2 := ⟨_,rfl⟩
        rw [← hhB] at hrg hfx
        rw [HV.out] at hvg
        have hav : av = some ⟨g,0,none⟩ := by injection hvg
        have HAV := hid hav
        have HGA := hid hga
        have HCA := hid (show ga < wr.heap.size ∧ wr.cell? ⟨ga,j,none⟩ = some (.string x.name) from ⟨hgas,hca⟩)
        have HRG := hid (show wr.rangeAt g (j * 25) (x.vals hB) ∧ g < wr.heap.size from ⟨hrg,hgs⟩)
        have HFX := hid (show x.In wr.heap.size wr hB from hfx.here)
        have HLP := hid hlp
        have HPX := hid hpx
        have HLJ := hid hlj
        have hjb : j < 1000000 := by have := HNF.out; omega
        subst hga
        clear hxn hlp hpx hpm hpj hhB hvg hav hrg hgs hfx hgas hj2
        have HEV := hid (HPL.out.many.env ⟨ea,M,mo,v⟩ (List.mem_cons_self ..))
        go_wp2_with fail
        refine (findP_any HEV.out _ HXN.out HF2.out).mono ?_
        intro y w18 hfd
        obtain ⟨hA,rfl,fA,b18⟩ := hfd.yes HLP.out
        rw [HPX.out] at fA ⊢
        have HP18 := hid (HPL.out.below b18)
        have HFA := hid fA
        have HB18 := hid b18
        clear hfd fA b18 hca
        dsimp only
        go_upto_region 25 with (refine wpList_store_row rfl 46 (.tmp 18) (.tmp 143) rfl w18.heap.size _ rfl rfl 46 Inf.zeros (World.alloc_heap_new _ _) HKR.out (HKZ.out _ _) (HKO.out _ _) ?_)
        rw [World.setRow_alloc_new]
        obtain ⟨W19,hW19⟩ : ∃ W,W = w18.alloc (.cells (x.vals hA).toArray 46) := ⟨_,rfl⟩
        have hb19 : Below w18.heap.size w18 W19 := hW19 ▸ below_one _ _
        have HB19 := hid (Trm.go HB18.out hb19)
        have HFA19 := hid (HFA.out.step (RanS.of_below hb19)).here
        have HFX19 := hid (Inf.carry HFX.out HB19.out)
        have HY19 := hid (show IBox W19 w18.heap.size x hA from hW19 ▸ World.alloc_heap_new _ _)
        obtain ⟨bY,hbY⟩ : ∃ b,b = w18.heap.size := ⟨_,rfl⟩
        rw [← hbY] at HY19
        rw [← hW19,← hbY]
        clear hW19 hbY hb19
        have HC19 := hid (show ∀ W : World,Below W19.heap.size W19 W → W.rangeAt bY 0 (x.vals hA) ∧ W.rangeAt g (j * 25) (x.vals hB) ∧ W.cell? ⟨ga,j,none⟩ = some (.string x.name) ∧ W.cell? ⟨r,0,none⟩ = some (.slice av NM.length cv) ∧ W.cell? ⟨g,j * 25 + 1,none⟩ = some (.string x.name) from fun W hW => by
         have hb := Trm.go HB19.out hW
         have hr1 := range_below HRG.out.1 hb HRG.out.2
         have hbx := (HPL.out.below hb).ref.box
         rw [HV.out] at hbx
         exact ⟨(HY19.out.keep hW).range,hr1,(cell_stay HCA.out hb).2,by simp [World.cell?,hbx],hr1 1 _ rfl⟩)
        have HBD : Hid (Below W19.heap.size W19 W19.drew) := hid (Below.refl _ _).drew
        have HSM := hid (fun (W : World) (hW : Below W19.heap.size W19 W) => same7_any x hA hB W (Inf.carry HFA19.out hW) (Inf.carry HFX19.out hW) HX20.out)
        have hav := HAV.out
        subst hav
        go_wp2_with fail
        refine wp_region_held_drew (S := fun w' => w'.rangeAt bY 0 (x.vals hA) ∧ w'.rangeAt g (j * 25) (x.vals hB) ∧ w'.cell? ⟨ga,j,none⟩ = some (.string x.name) ∧ w'.cell? ⟨r,0,none⟩ = some (.slice (some ⟨g,0,none⟩) NM.length cv) ∧ w'.cell? ⟨g,j * 25 + 1,none⟩ = some (.string x.name)) (by kernel_rfl) (HC19.out _ HBD.out) (fun hHeld => ?_)
        refine wpAnyH_take (i := 0) (v := ?vrp0) rfl (by kernel_rfl) (by kernel_rfl) (by kernel_rfl) (fun _ _ _ h => h) (Or.inl ⟨by rfl,?hyrp0⟩) (by assumption) ?restrp0
        case hyrp0 => (intro w hSw; (try dsimp only at hSw); go_simp <;> with_reducible rfl)
        try simp only [zqT,zqZ,Act.put,zqB,zq0,zq1]
        refine wpAnyH_take (i := 1) (v := ?vrp1) rfl (by kernel_rfl) (by kernel_rfl) (by kernel_rfl) (fun _ _ _ h => h) (Or.inl ⟨by rfl,?hyrp1⟩) (by assumption) ?restrp1
        case hyrp1 => (intro w hSw; (try dsimp only at hSw); go_simp <;> with_reducible rfl)
        try simp only [zqT,zqS,zqZ,Act.put,zqB,zq0,zq1]
        refine wpAnyH_take (i := 2) (v := ?vrp2) rfl (by kernel_rfl) (by kernel_rfl) (by kernel_rfl) (fun _ _ _ h => h) (Or.inl ⟨by rfl,?hyrp2⟩) (by assumption) ?restrp2
        case hyrp2 => (intro w hSw; (try dsimp only at hSw); go_simp <;> with_reducible rfl)
        try simp only [zqT,zqS,zqZ,Act.put,zqB,zq0,zq1]
        refine wpAnyH_take (i := 3) (v := ?vrp3) rfl (by kernel_rfl) (by kernel_rfl) (by kernel_rfl) (fun _ _ _ h => h) (Or.inl ⟨by rfl,?hyrp3⟩) (by assumption) ?restrp3
        case hyrp3 => (intro w hSw; (try dsimp only at hSw); go_simp <;> with_reducible rfl)
        try simp only [zqT,zqS,zqZ,Act.put,zqB,zq0,zq1]
        refine wpAnyH_take (i := 4) (v := ?vrp4) rfl (by kernel_rfl) (by kernel_rfl) (by kernel_rfl) (fun _ _ _ h => h) (Or.inl ⟨by rfl,?hyrp4⟩) (by assumption) ?restrp4
        case hyrp4 => (intro w hSw; (try dsimp only at hSw); go_simp <;> with_reducible rfl)
        try simp only [zqT,zqS,zqZ,Act.put,zqB,zq0,zq1]
        refine wpAnyH_take (i := 5) (v := ?vrp5) rfl (by kernel_rfl) (by kernel_rfl) (by kernel_rfl) (fun _ _ _ h => h) (Or.inl ⟨by rfl,?hyrp5⟩) (by assumption) ?restrp5
        case hyrp5 => (intro w hSw; (try dsimp only at hSw); go_simp <;> with_reducible rfl)
        try simp only [zqT,zqS,zqZ,Act.put,zqB,zq0,zq1]
        refine wpAnyH_take (i := 6) (v := ?vrp6) rfl (by kernel_rfl) (by kernel_rfl) (by kernel_rfl) (fun _ _ _ h => h) (Or.inl ⟨by rfl,?hyrp6⟩) (by assumption) ?restrp6
        case hyrp6 => (intro w hSw; (try dsimp only at hSw); go_simp <;> with_reducible rfl)
        try simp only [zqT,zqS,zqZ,Act.put,zqB,zq0,zq1]
        refine wpAnyH_take (i := 7) (v := ?vrp7) rfl (by kernel_rfl) (by kernel_rfl) (by kernel_rfl) (fun _ _ _ h => h) (Or.inl ⟨by rfl,?hyrp7⟩) (by assumption) ?restrp7
        case hyrp7 => (intro w hSw; (try dsimp only at hSw); go_simp <;> with_reducible rfl)
        try simp only [zqT,zqS,zqZ,Act.put,zqB,zq0,zq1]
        refine wpAnyH_take (i := 8) (v := ?vrp8) rfl (by kernel_rfl) (by kernel_rfl) (by kernel_rfl) (fun _ _ _ h => h) (Or.inl ⟨by rfl,?hyrp8⟩) (by assumption) ?restrp8
        case hyrp8 => (intro w hSw; (try dsimp only at hSw); go_simp <;> with_reducible rfl)
        try simp only [zqT,zqS,zqZ,Act.put,zqB,zq0,zq1]
        refine wpAnyH_take (i := 9) (v := ?vrp9) rfl (by kernel_rfl) (by kernel_rfl) (by kernel_rfl) (fun _ _ _ h => h) (Or.inl ⟨by rfl,?hyrp9⟩) (by assumption) ?restrp9
        case hyrp9 => (intro w hSw; (try dsimp only at hSw); go_simp <;> with_reducible rfl)
        try simp only [zqT,zqS,zqZ,Act.put,zqB,zq0,zq1]
        refine wpAnyH_take (i := 10) (v := ?vrp10) rfl (by kernel_rfl) (by kernel_rfl) (by kernel_rfl) (fun _ _ _ h => h) (Or.inl ⟨by rfl,?hyrp10⟩) (by assumption) ?restrp10
        case hyrp10 => (intro w hSw; (try dsimp only at hSw); go_simp <;> with_reducible rfl)
        try simp only [zqT,zqS,zqZ,Act.put,zqB,zq0,zq1]
        refine wpAnyH_take (i := 11) (v := ?vrp11) rfl (by kernel_rfl) (by kernel_rfl) (by kernel_rfl) (fun _ _ _ h => h) (Or.inl ⟨by rfl,?hyrp11⟩) (by assumption) ?restrp11
        case hyrp11 => (intro w hSw; (try dsimp only at hSw); go_simp <;> with_reducible rfl)
        try simp only [zqT,zqS,zqZ,Act.put,zqB,zq0,zq1]
        refine wpAnyH_take (i := 12) (v := ?vrp12) rfl (by kernel_rfl) (by kernel_rfl) (by kernel_rfl) (fun _ _ _ h => h) (Or.inl ⟨by rfl,?hyrp12⟩) (by assumption) ?restrp12
        case hyrp12 => (intro w hSw; (try dsimp only at hSw); go_simp <;> with_reducible rfl)
        try simp only [zqT,zqS,zqZ,Act.put,zqB,zq0,zq1]
        refine wpAnyH_take (i := 13) (v := ?vrp13) rfl (by kernel_rfl) (by kernel_rfl) (by kernel_rfl) (fun _ _ _ h => h) (Or.inl ⟨by rfl,?hyrp13⟩) (by assumption) ?restrp13
        case hyrp13 => (intro w hSw; (try dsimp only at hSw); go_simp <;> with_reducible rfl)
        try simp only [zqT,zqS,zqZ,Act.put,zqB,zq0,zq1]
        refine wpAnyH_take (i := 14) (v := ?vrp14) rfl (by kernel_rfl) (by kernel_rfl) (by kernel_rfl) (fun _ _ _ h => h) (Or.inl ⟨by rfl,?hyrp14⟩) (by assumption) ?restrp14
        case hyrp14 => (intro w hSw; (try dsimp only at hSw); go_simp <;> with_reducible rfl)
        try simp only [zqT,zqS,zqZ,Act.put,zqB,zq0,zq1]
        refine wpAnyH_take (i := 15) (v := ?vrp15) rfl (by kernel_rfl) (by kernel_rfl) (by kernel_rfl) (fun _ _ _ h => h) (Or.inl ⟨by rfl,?hyrp15⟩) (by assumption) ?restrp15
        case hyrp15 => (intro w hSw; (try dsimp only at hSw); go_simp <;> with_reducible rfl)
        try simp only [zqT,zqS,zqZ,Act.put,zqB,zq0,zq1]
        refine wpAnyH_take (i := 16) (v := ?vrp16) rfl (by kernel_rfl) (by kernel_rfl) (by kernel_rfl) (fun _ _ _ h => h) (Or.inl ⟨by rfl,?hyrp16⟩) (by assumption) ?restrp16
        case hyrp16 => (intro w hSw; (try dsimp only at hSw); go_simp <;> with_reducible rfl)
        try simp only [zqT,zqS,zqZ,Act.put,zqB,zq0,zq1]
        refine wpAnyH_take (i := 17) (v := ?vrp17) rfl (by kernel_rfl) (by kernel_rfl) (by kernel_rfl) (fun _ _ _ h => h) (Or.inl ⟨by rfl,?hyrp17⟩) (by assumption) ?restrp17
        case hyrp17 => (intro w hSw; (try dsimp only at hSw); go_simp <;> with_reducible rfl)
        try simp only [zqT,zqS,zqZ,Act.put,zqB,zq0,zq1]
        refine wpAnyH_take (i := 18) (v := .agg (x.vals hA).toArray) rfl (by kernel_rfl) (by kernel_rfl) (by kernel_rfl) (fun _ _ _ h => h) (yieldsIf_load_mid rfl 46 (.tmp 18) rfl bY 0 rfl (x.vals hA) _ (fun _ h => h.1) Tryz.underlying46 rfl HKL.out) (by assumption) ?_
        try simp only [zqT,zqS,zqZ,Act.put,zqB,zq0,zq1]
        refine wpAnyH_take (i := 19) (v := ?vrp19) rfl (by kernel_rfl) (by kernel_rfl) (by kernel_rfl) (fun _ _ _ h => h) (Or.inl ⟨by rfl,?hyrp19⟩) (by assumption) ?restrp19
        case hyrp19 => (intro w hSw; (try dsimp only at hSw); go_simp <;> with_reducible rfl)
        try simp only [zqT,zqS,zqZ,Act.put,zqB,zq0,zq1]
        refine wpAnyH_take (i := 20) (v := ?vrp20) rfl (by kernel_rfl) (by kernel_rfl) (by kernel_rfl) (fun _ _ _ h => h) (Or.inl ⟨by rfl,?hyrp20⟩) (by assumption) ?restrp20
        case hyrp20 => (intro w hSw; (try dsimp only at hSw); go_simp <;> with_reducible rfl)
        try simp only [zqT,zqS,zqZ,Act.put,zqB,zq0,zq1]
        refine wpAnyH_take (i := 21) (v := ?vrp21) rfl (by kernel_rfl) (by kernel_rfl) (by kernel_rfl) (fun _ _ _ h => h) (Or.inl ⟨by rfl,?hyrp21⟩) (by assumption) ?restrp21
        case hyrp21 => (intro w hSw; (try dsimp only at hSw); go_simp <;> with_reducible rfl)
        try simp only [zqT,zqS,zqZ,Act.put,zqB,zq0,zq1]
        refine wpAnyH_take (i := 22) (v := ?vrp22) rfl (by kernel_rfl) (by kernel_rfl) (by kernel_rfl) (fun _ _ _ h => h) (Or.inl ⟨by rfl,?hyrp22⟩) (by assumption) ?restrp22
        case hyrp22 => (intro w hSw; (try dsimp only at hSw); go_simp <;> with_reducible rfl)
        try simp only [zqT,zqS,zqZ,Act.put,zqB,zq0,zq1]
        refine wpAnyH_take (i := 23) (v := ?vrp23) rfl (by kernel_rfl) (by kernel_rfl) (by kernel_rfl) (fun _ _ _ h => h) (Or.inl ⟨by rfl,?hyrp23⟩) (by assumption) ?restrp23
        case hyrp23 => (intro w hSw; (try dsimp only at hSw); go_simp <;> with_reducible rfl)
        try simp only [zqT,zqS,zqZ,Act.put,zqB,zq0,zq1]
        refine wpAnyH_take (i := 24) (v := ?vrp24) rfl (by kernel_rfl) (by kernel_rfl) (by kernel_rfl) (fun _ _ _ h => h) (Or.inl ⟨by rfl,?hyrp24⟩) (by assumption) ?restrp24
        case hyrp24 => (intro w hSw; (try dsimp only at hSw); go_simp <;> with_reducible rfl)
        try simp only [zqT,zqS,zqZ,Act.put,zqB,zq0,zq1]
        refine wpAnyH_take (i := 25) (v := .agg (x.vals hB).toArray) rfl (by kernel_rfl) (by kernel_rfl) (by kernel_rfl) (fun _ _ _ h => h) (yieldsIf_load_mid rfl 46 (.tmp 169) rfl g (j * 25) rfl (x.vals hB) _ (fun _ h => h.2.1) Tryz.underlying46 rfl HKL.out) (by assumption) ?_
        try simp only [zqT,zqS,zqZ,Act.put,zqB,zq0,zq1]
        refine wpAnyH_ready (rs := [26]) (by kernel_rfl) (by simp) ?_
        refine AllReadyH.cons rfl (fun K hK => ?_) AllReadyH.nil
        go_simp
        refine (HSM.out _ HBD.out).mono ?_
        rintro y v3 ⟨rfl,c3⟩
        have HB20 := hid (Trm.go HBD.out c3)
        clear c3
        refine hK.out _ _ (HC19.out _ HB20.out) (fun hHeld => ?_)
        clear hK K
        try simp only [zqT,zqS,zqZ,Act.put,zqB,zq0,zq1]
        refine wpAnyH_take (i := 27) (v := ?vrp27) rfl (by kernel_rfl) (by kernel_rfl) (by kernel_rfl) (fun _ _ _ h => h) (Or.inl ⟨by rfl,?hyrp27⟩) (by assumption) ?restrp27
        case hyrp27 => (intro w hSw; (try dsimp only at hSw); go_simp <;> with_reducible rfl)
        try simp only [zqT,zqS,zqZ,Act.put,zqB,zq0,zq1]
        refine wpAnyH_take (i := 28) (v := ?vrp28) rfl (by kernel_rfl) (by kernel_rfl) (by kernel_rfl) (fun _ _ _ h => h) (Or.inl ⟨by rfl,?hyrp28⟩) (by assumption) ?restrp28
        case hyrp28 => (intro w hSw; (try dsimp only at hSw); go_simp <;> with_reducible rfl)
        try simp only [zqT,zqS,zqZ,Act.put,zqB,zq0,zq1]
        refine wpAnyH_done (by kernel_rfl) ?_ _
        have HPN := hid (HPL.out.below (Trm.go HB19.out HB20.out))
        have HSN := hid (HSR.out.below (Trm.go HB19.out HB20.out))
        have hwj := (wk_two hjb).1
        have hwj2 := (wk_two hjb).2
        go_wp2_with fail
        go_roundw
        case rel => exact ⟨j + 1,by first | rfl | (rw [hwj]; rfl),HLJ.out,HPN.out,HSN.out⟩
        case measure => first | exact less_step rfl HLJ.out | exact less_step hwj HLJ.out
       ·have HX5 := hid (Lvl.keep HPL.out.many.bel HBX.out)
        obtain ⟨x0,x1,x2,x3,x4⟩ := Tm.cells HX5.out
        obtain ⟨W5,hW5⟩ : ∃ W,W = wr.alloc (.cells (t.vals ht) 27) := ⟨_,rfl⟩
        have HP5 := (show P3St WA W5 _ [⟨ea,M,mo,v⟩] r vr ps t ht [t] 1 (.slice (some ⟨wr.heap.size,0,none⟩) 1 1) from hW5 ▸ P3St.one HPL.out (HIA.out.below HPL.out.many.bel))
        have H3 : Hid (P3Rel WA [⟨ea,M,mo,v⟩] r vr ps t ht l (.slice (some ⟨wr.heap.size,0,none⟩) 1 1) (.int .i64 (0 : Nat)) W5) := hid ⟨0,1,_,rfl,by omega,rfl,by rw [List.take_zero]; exact HP5⟩
        unfold Tm.vals at hW5
        clear HP5
        go_upto_region 29 with fail
        rw [← hW5]
        clear hW5 x0 x1 x2 x3 x4 HPL HSR hlj hj
        go_loopw [20,21] (fun va vi wr => P3Rel WA [⟨ea,M,mo,v⟩] r vr ps t ht l va vi wr) (fun _ i _ => l.length - (intOf i).toNat)
        case atStart => exact H3.out
        case round =>
         clear H3
         obtain ⟨k,n,P3,rfl,hk,hn,hst⟩ := hrel
         have HST := hid hst
         obtain ⟨qs,hnq,hrow,hmap,hlie⟩ := hst.row
         obtain ⟨ao6,cp6,hu6⟩ := row_slice hrow
         have HNQ := hid hnq
         have HQR := hid hrow
         have HMAP := hid hmap
         have HLIE := hid hlie
         have HNK := hid hn
         subst hu6
         clear hst hnq hrow hmap hlie hn
         have HX5 := hid (Lvl.keep HST.out.ply.many.bel HBX.out)
         by_cases hlt : k < l.length
         ·obtain ⟨b,off,hd,hlo,hb,hrg,hix⟩ := HROW.out.place k hlt
          have hnx : HST.out.ply.many.bel.size = HST.out.ply.many.bel.size := rfl
          have hmapk : (t :: (l.take k).map (fun x => tcon x.name t)) ++ [tcon l[k].name t] = t :: (l.take (k + 1)).map (fun x => tcon x.name t) := by rw [List.take_succ_eq_append_getElem hlt,List.map_append]; rfl
          have HMK := hid hmapk
          have hnm := hrg 1 (.string l[k].name) rfl
          have HSZ : Hid (l[k].name.size ≤ 9223372036854775807) := hid hix.fit.name
          obtain ⟨s,hs⟩ : ∃ s,s = l[k].name := ⟨_,rfl⟩
          rw [← hs] at hnm HSZ HMK
          have HNMC := hid (show ∀ W : World,Below WA.heap.size WA W → W.cell? ⟨b,off + k * 25 + 1,none⟩ = some (.string s) ∧ W.cell? ⟨w.heap.size,3,none⟩ = some (.slice ht.lo t.ls.length ht.lc) from fun W hW => ⟨(hW.cell (p := ⟨b,off + k * 25 + 1,none⟩) hb).trans hnm,(Tm.cells (Lvl.keep hW HBX.out)).c3⟩)
          have HLO := hid hlo
          have HLT := hid hlt
          have hkb : k < 1000000 := by have := HF.out.1; omega
          have hsl := hlt
          subst hlo
          obtain ⟨i0,hi,hz0,hz1,hz2⟩ := info_parts infoT
          have HBW := hid HST.out.ply.many.bel
          have HBD := hid (show Below WA.heap.size WA wr.drew from HBW.out.drew)
          have HUIN := hid (show (tcon s t).In WA.heap.size wr ⟨ht.lo,ht.lc,none,0⟩ from by
           have h0 := Tm.In_iff.1 (HIA.out.below HBW.out)
           exact Tm.In_iff.2 ⟨⟨(by decide : (0 : Int) ≤ 3),(by decide : (3 : Int) ≤ 255),(by decide : (-9223372036854775808 : Int) ≤ 0),(by decide : (0 : Int) ≤ 9223372036854775807),HSZ.out,h0.1.ls,(by decide : (0 : Nat) ≤ 9223372036854775807)⟩,h0.2.1,h0.2.2.1,trivial⟩)
          have hnn : n ≤ 1000 := by have := HNK.out; have := HF.out.1; omega
          have HQ1 : Hid (n + 1 ≤ maxLen) := hid (by unfold maxLen; omega)
          have HQ2 : Hid ((n + 1) * 80 ≤ 140737488355328) := hid (by omega)
          obtain ⟨UV,hUV⟩ : ∃ q : Array Value,q = #[.int .u8 3,.int .i64 0,.string s,.slice ht.lo t.ls.length ht.lc,.slice none 0 0] := ⟨_,rfl⟩
          have HUV := hid (show UV = (tcon s t).vals ⟨ht.lo,ht.lc,none,0⟩ from by rw [hUV]; rfl)
          have HU1 := hid (show ∀ u ∈ UV.toList,u.oneCell' = true from by rw [HUV.out]; exact vals_one5 _ _)
          have HU5 : Hid (UV.toList.length = 1 * 5) := hid (by rw [hUV]; rfl)
          have HNEWS := hid (World.news_of_block (cs := UV) (t := 27) (fr := (0,0)) (World.alloc_heap_new wr.drew _))
          have HBA2 := hid (show Below WA.heap.size WA (wr.drew.alloc (.cells UV 27)) from HBD.out.trans ((below_one _ _).mono HBD.out.size))
          clear hnm hs hix hrg hnn hnx hmapk hk
          go_wp2_with fail
          refine wp_region_held_drew (S := fun w' => w'.cell? ⟨b,off + k * 25 + 1,none⟩ = some (.string s) ∧ w'.cell? ⟨w.heap.size,3,none⟩ = some (.slice ht.lo t.ls.length ht.lc)) (by kernel_rfl) (HNMC.out _ HBD.out) (fun hHeld => ?_)
          refine wpAnyH_take (i := 0) (v := ?vrq0) rfl (by kernel_rfl) (by kernel_rfl) (by kernel_rfl) (fun _ _ _ h => h) (Or.inl ⟨by rfl,?hyrq0⟩) (by assumption) ?restrq0
          case hyrq0 => (intro w' hSw; (try dsimp only at hSw); go_simp <;> with_reducible rfl)
          try simp only [zqT,zqZ,Act.put,zqB,zq0,zq1]
          refine wpAnyH_take (i := 1) (v := ?vrq1) rfl (by kernel_rfl) (by kernel_rfl) (by kernel_rfl) (fun _ _ _ h => h) (Or.inl ⟨by rfl,?hyrq1⟩) (by assumption) ?restrq1
          case hyrq1 => (intro w' hSw; (try dsimp only at hSw); go_simp <;> with_reducible rfl)
          try simp only [zqT,zqS,zqZ,Act.put,zqB,zq0,zq1]
          refine wpAnyH_take (i := 2) (v := ?vrq2) rfl (by kernel_rfl) (by kernel_rfl) (by kernel_rfl) (fun _ _ _ h => h) (Or.inl ⟨by rfl,?hyrq2⟩) (by assumption) ?restrq2
          case hyrq2 => (intro w' hSw; (try dsimp only at hSw); go_simp <;> with_reducible rfl)
          try simp only [zqT,zqS,zqZ,Act.put,zqB,zq0,zq1]
          refine wpAnyH_take (i := 3) (v := ?vrq3) rfl (by kernel_rfl) (by kernel_rfl) (by kernel_rfl) (fun _ _ _ h => h) (Or.inl ⟨by rfl,?hyrq3⟩) (by assumption) ?restrq3
          case hyrq3 => (intro w' hSw; (try dsimp only at hSw); go_simp <;> with_reducible rfl)
          try simp only [zqT,zqS,zqZ,Act.put,zqB,zq0,zq1]
          refine wpAnyH_take (i := 4) (v := ?vrq4) rfl (by kernel_rfl) (by kernel_rfl) (by kernel_rfl) (fun _ _ _ h => h) (Or.inl ⟨by rfl,?hyrq4⟩) (by assumption) ?restrq4
          case hyrq4 => (intro w' hSw; (try dsimp only at hSw); go_simp <;> with_reducible rfl)
          try simp only [zqT,zqS,zqZ,Act.put,zqB,zq0,zq1]
          refine wpAnyH_take (i := 5) (v := ?vrq5) rfl (by kernel_rfl) (by kernel_rfl) (by kernel_rfl) (fun _ _ _ h => h) (Or.inl ⟨by rfl,?hyrq5⟩) (by assumption) ?restrq5
          case hyrq5 => (intro w' hSw; (try dsimp only at hSw); go_simp <;> with_reducible rfl)
          try simp only [zqT,zqS,zqZ,Act.put,zqB,zq0,zq1]
          refine wpAnyH_take (i := 6) (v := ?vrq6) rfl (by kernel_rfl) (by kernel_rfl) (by kernel_rfl) (fun _ _ _ h => h) (Or.inl ⟨by rfl,?hyrq6⟩) (by assumption) ?restrq6
          case hyrq6 => (intro w' hSw; (try dsimp only at hSw); go_simp <;> with_reducible rfl)
          try simp only [zqT,zqS,zqZ,Act.put,zqB,zq0,zq1]
          refine wpAnyH_take (i := 7) (v := ?vrq7) rfl (by kernel_rfl) (by kernel_rfl) (by kernel_rfl) (fun _ _ _ h => h) (Or.inl ⟨by rfl,?hyrq7⟩) (by assumption) ?restrq7
          case hyrq7 => (intro w' hSw; (try dsimp only at hSw); go_simp <;> with_reducible rfl)
          try simp only [zqT,zqS,zqZ,Act.put,zqB,zq0,zq1]
          refine wpAnyH_take (i := 8) (v := ?vrq8) rfl (by kernel_rfl) (by kernel_rfl) (by kernel_rfl) (fun _ _ _ h => h) (Or.inl ⟨by rfl,?hyrq8⟩) (by assumption) ?restrq8
          case hyrq8 => (intro w' hSw; (try dsimp only at hSw); go_simp <;> with_reducible rfl)
          try simp only [zqT,zqS,zqZ,Act.put,zqB,zq0,zq1]
          refine wpAnyH_ready (rs := [9]) (by kernel_rfl) (by simp) ?_
          refine AllReadyH.cons rfl (fun K hK => ?_) AllReadyH.nil
          go_simp
          rw [← hUV]
          refine hK.out _ _ (HNMC.out _ HBA2.out) (fun hHeld => ?_)
          clear hK K
          try simp only [zqT,zqS,zqZ,Act.put,zqB,zq0,zq1]
          refine wpAnyH_ready (rs := [10]) (by kernel_rfl) (by simp) ?_
          refine AllReadyH.cons rfl (fun K hK => ?_) AllReadyH.nil
          refine step_append_lies _ (by rfl) _ _ _ (by rfl) WA.heap.size 27 i0 _ 5 80 Tryz.underlying25 hi hz0 hz1 hz2 rfl (by decide) _ n (flat qs) (by rfl) ((show wr.drew.ownsRow WA.heap.size 27 5 (.slice ao6 n cp6) n (flat qs) from HQR.out).alloc _) ⟨wr.heap.size,0,none⟩ 1 1 UV.toList (by rfl) HU5.out HNEWS.out HU1.out Nat.one_pos HQ1.out HQ2.out (by first | exact HBA2.out.size | (have := HBA2.out.size; exact this)) (wr.heap.size + 1) (by first | rfl | (show (wr.alloc (.cells UV 27)).heap.size = _; rw [World.size_alloc])) ?_
          intro g1 cap1 w6 hown6 hg6 hat6 hlt6
          have HO6 := hid hown6
          have HG6 := hid (show (wr.drew.alloc (.cells UV 27)).grownBy w6 (Value.slice ao6 n cp6).ownBlock from hg6)
          have HAT6 := hid hat6
          have HLT6 := hid hlt6
          clear hown6 hg6 hat6 hlt6
          have HB6 := hid (show Below WA.heap.size WA w6 from HBA2.out.trans ⟨HG6.out.os,HG6.out.tape,HG6.out.output,HG6.out.size,fun q hq => HG6.out.block q (Nat.lt_of_lt_of_le hq HBA2.out.size) (fun a => by have := (HQR.out.lt q a.symm).1; omega)⟩)
          refine hK.out _ _ (HNMC.out _ HB6.out) (fun hHeld => ?_)
          clear hK K
          try simp only [Act.put,zqB]
          refine wpAnyH_take (i := 11) (v := ?vrq11) rfl (by kernel_rfl) (by kernel_rfl) (by kernel_rfl) (fun _ _ _ h => h) (Or.inl ⟨by rfl,?hyrq11⟩) (by assumption) ?restrq11
          case hyrq11 => (intro w' hSw; (try dsimp only at hSw); go_simp <;> with_reducible rfl)
          try simp only [zqT,zqS,zqZ,Act.put,zqB,zq0,zq1]
          refine wpAnyH_done (by kernel_rfl) ?_ _
          obtain ⟨P4,hst4⟩ := HST.out.push HNQ.out HQR.out HMAP.out HLIE.out HUIN.out rfl rfl (by rw [← HUV.out]; exact HO6.out) HG6.out HAT6.out HLT6.out
          rw [HMK.out] at hst4
          have HNX : Hid (∀ z : Int,z = (k : Int) + 1 → P3Rel WA [⟨ea,M,mo,v⟩] r vr ps t ht l (.slice (some ⟨g1,0,none⟩) (n + 1) cap1) (.int .i64 z) w6) := hid (fun z hz => ⟨k + 1,n + 1,P4,by rw [hz]; rfl,HLT.out,by rw [HNK.out],hst4⟩)
          have hwk := (wk_two hkb).1
          have hwk2 := (wk_two hkb).2
          clear hst4 hUV
          go_wp2_with fail
          go_roundw
          case rel => first | exact HNX.out _ rfl | exact HNX.out _ hwk
          case measure => first | exact less_step rfl HLT.out | exact less_step hwk HLT.out
         ·have hke : k = l.length := by omega
          subst hke
          obtain ⟨w8,hw8⟩ : ∃ x : World,x = wr := ⟨_,rfl⟩
          subst hw8
          have HPL := hid HST.out.ply
          have HNL : Hid (n = l.length + 1 ∧ l.length ≤ 40) := hid ⟨HNK.out,HF.out.1⟩
          have HKT : ∀ {t : Tm} {h : Hd},Hid ((Tryz.prog.info? 27).map (·.size) = some (t.vals h).size) := fun {t h} => hid (by kernel_rfl)
          have HLS : Hid (t.ls.length ≤ 1000000) := hid (deep_levels HDE.out)
          have hlt2 := hlt
          go_upto_region 33 with fail
          clear hlt hlt2 hk
          go_loopw [22] (fun vi wr' => P4Rel w8 n vi wr') (fun i _ => n - (intOf i).toNat)
          case atStart => exact ⟨0,rfl,by omega,Below.refl _ _⟩
          case round =>
           obtain ⟨j,rfl,hj,hb8⟩ := hrel
           have HBwr := hid hb8
           clear hb8
           by_cases hlj : j < n
           ·have hjq : j < qs.length := by have := HNQ.out; omega
            obtain ⟨g,cap,hvg,hcell,hgs⟩ := row_terms HQR.out HNQ.out hjq
            have hli := HLIE.out qs[j] (List.getElem_mem hjq)
            obtain ⟨u,hu⟩ : ∃ u,u = qs[j].1 := ⟨_,rfl⟩
            obtain ⟨hu',huh⟩ : ∃ u,u = qs[j].2 := ⟨_,rfl⟩
            rw [← hu,← huh] at hcell hli
            have hao : ao6 = some ⟨g,0,none⟩ := by injection hvg
            have HUC := hid (show ∀ W : World,Below w8.heap.size w8 W → W.cell? ⟨g,j * 5,none⟩ = some (.int .u8 u.k) ∧ W.cell? ⟨g,j * 5 + 1,none⟩ = some (.int .i64 u.n) ∧ W.cell? ⟨g,j * 5 + 2,none⟩ = some (.string u.s) ∧ W.cell? ⟨g,j * 5 + 3,none⟩ = some (.slice hu'.lo u.ls.length hu'.lc) ∧ W.cell? ⟨g,j * 5 + 4,none⟩ = some (.slice hu'.to u.ts.length hu'.tc) from fun W hW => ⟨(hW.cell (p := ⟨g,_,none⟩) hgs).trans hcell.c0,(hW.cell (p := ⟨g,_,none⟩) hgs).trans hcell.c1,(hW.cell (p := ⟨g,_,none⟩) hgs).trans hcell.c2,(hW.cell (p := ⟨g,_,none⟩) hgs).trans hcell.c3,(hW.cell (p := ⟨g,_,none⟩) hgs).trans hcell.c4⟩)
            have HUI := hid (fun (W : World) (hW : Below w8.heap.size w8 W) => (show u.In W.heap.size W hu' from carry (Tm.In.mono HPL.out.many.bel.size _ _ hli.1) hW))
            have HUL : Hid (u.ls.length ≤ 1000000 ∧ u.ls.length ≤ hu'.lc) := hid (by rw [hli.2.1,hli.2.2]; exact ⟨HLS.out,HCAP.out⟩)
            have HENV := hid (fun (W : World) (hW : Below w8.heap.size w8 W) => ((HPL.out.below hW).many.env ⟨ea,M,mo,v⟩ (List.mem_cons_self ..)).env)
            have HCTX := hid (fun (W : World) (hW : Below w8.heap.size w8 W) => ((HPL.out.below hW).ref.ctx))
            obtain ⟨ta,hta⟩ : ∃ q,q = tyAns M u := ⟨_,rfl⟩
            obtain ⟨va,hva⟩ : ∃ q,q = vaAns M u := ⟨_,rfl⟩
            have HC1 := hid (fun (W : World) (hW : Below w8.heap.size w8 W) => (show Calls Tryz.prog 25 #[.pointer (some ⟨ea,0,none⟩),u.val hu'] W (TAns ta W) from hta ▸ type_any (HENV.out W hW) u hu' (HUI.out W hW) HUL.out.1 HUL.out.2))
            have HC2 := hid (fun (W : World) (hW : Below w8.heap.size w8 W) => (show Calls Tryz.prog 26 #[.pointer (some ⟨r,0,none⟩),u.val hu'] W (TAns ta W) from hta ▸ type7_any HINF.out (HCTX.out W hW) (fun p hp => (HFIN.out p hp).2.2.1) u hu' (HUI.out W hW) HUL.out.1))
            have HC3 := hid (fun (W : World) (hW : Below w8.heap.size w8 W) => (show Calls Tryz.prog 27 #[.pointer (some ⟨ea,0,none⟩),u.val hu'] W (TAns va W) from hva ▸ value_any (HENV.out W hW) u hu' (HUI.out W hW) HUL.out.1 HUL.out.2))
            have HC4 := hid (fun (W : World) (hW : Below w8.heap.size w8 W) => (show Calls Tryz.prog 28 #[.pointer (some ⟨r,0,none⟩),u.val hu'] W (TAns va W) from hva ▸ value7_any HINF.out (HCTX.out W hW) (fun p hp => (HFIN.out p hp).2.2.2) u hu' (HUI.out W hW) HUL.out.1))
            obtain ⟨ta1,ta2⟩ := ta
            obtain ⟨va1,va2⟩ := va
            have HAO := hid hao
            have HLJ := hid hlj
            have hjb : j < 1000000 := by have := HNL.out; omega
            subst hao
            unfold Tm.val Tm.vals at HC1 HC2 HC3 HC4
            clear hvg hcell hgs hli hu huh hta hva hjq
            obtain ⟨u0,u1,u2,u3,u4⟩ := HUC.out wr HBwr.out
            go_wp2_with fail
            refine (HC1.out wr HBwr.out).mono ?_
            rintro y v41 ⟨h41,rfl,i41,b41⟩
            have HI41 := hid i41
            have HC41 := hid (Trm.go HBwr.out b41)
            clear b41 i41 u0 u1 u2 u3 u4
            dsimp only
            unfold Tm.val
            go_upto_region 36 with (refine wpList_store_row rfl 27 (.tmp 23) (.tmp 206) rfl v41.heap.size (ta1.vals h41) rfl rfl 27 _ (World.alloc_heap_new v41 _) HKT.out rfl (by kernel_rfl) ?_)
            rw [World.setRow_alloc_new]
            obtain ⟨W41,hW⟩ : ∃ W,W = v41.alloc (.cells (ta1.vals h41) 27) := ⟨_,rfl⟩
            have hb41 : Below v41.heap.size v41 W41 := hW ▸ below_one _ _
            have HBW41 := hid (Trm.go HC41.out hb41)
            have HI41b := hid (carry HI41.out hb41)
            have HT41 := hid (show W41.heap[v41.heap.size]? = some (.cells (ta1.vals h41) 27) from hW ▸ World.alloc_heap_new _ _)
            obtain ⟨q41,hq⟩ : ∃ b,b = v41.heap.size := ⟨_,rfl⟩
            rw [← hq] at HT41
            rw [← hW,← hq]
            clear hW hq hb41
            obtain ⟨u0,u1,u2,u3,u4⟩ := HUC.out W41 HBW41.out
            go_wp2_with fail
            refine (HC2.out W41 HBW41.out).mono ?_
            rintro y v42 ⟨h42,rfl,i42,b42⟩
            have HI42 := hid i42
            have HC42 := hid (Trm.go HBW41.out b42)
            have HT41 := hid (Lvl.keep b42 HT41.out)
            have HI41b := hid (carry HI41b.out b42)
            clear b42 i42 u0 u1 u2 u3 u4
            dsimp only
            unfold Tm.val
            go_upto_region 37 with (refine wpList_store_row rfl 27 (.tmp 25) (.tmp 215) rfl v42.heap.size (ta1.vals h42) rfl rfl 27 _ (World.alloc_heap_new v42 _) HKT.out rfl (by kernel_rfl) ?_)
            rw [World.setRow_alloc_new]
            obtain ⟨W42,hW⟩ : ∃ W,W = v42.alloc (.cells (ta1.vals h42) 27) := ⟨_,rfl⟩
            have hb42 : Below v42.heap.size v42 W42 := hW ▸ below_one _ _
            have HBW42 := hid (Trm.go HC42.out hb42)
            have HI42b := hid (carry HI42.out hb42)
            have HT42 := hid (show W42.heap[v42.heap.size]? = some (.cells (ta1.vals h42) 27) from hW ▸ World.alloc_heap_new _ _)
            obtain ⟨q42,hq⟩ : ∃ b,b = v42.heap.size := ⟨_,rfl⟩
            rw [← hq] at HT42
            rw [← hW,← hq]
            have HT41 := hid (Lvl.keep hb42 HT41.out)
            have HI41b := hid (carry HI41b.out hb42)
            clear hW hq hb42
            obtain ⟨u0,u1,u2,u3,u4⟩ := HUC.out W42 HBW42.out
            go_wp2_with fail
            refine (HC3.out W42 HBW42.out).mono ?_
            rintro y v43 ⟨h43,rfl,i43,b43⟩
            have HI43 := hid i43
            have HC43 := hid (Trm.go HBW42.out b43)
            have HT41 := hid (Lvl.keep b43 HT41.out)
            have HI41b := hid (carry HI41b.out b43)
            have HT42 := hid (Lvl.keep b43 HT42.out)
            have HI42b := hid (carry HI42b.out b43)
            clear b43 i43 u0 u1 u2 u3 u4
            dsimp only
            unfold Tm.val
            go_upto_region 38 with (refine wpList_store_row rfl 27 (.tmp 27) (.tmp 224) rfl v43.heap.size (va1.vals h43) rfl rfl 27 _ (World.alloc_heap_new v43 _) HKT.out rfl (by kernel_rfl) ?_)
            rw [World.setRow_alloc_new]
            obtain ⟨W43,hW⟩ : ∃ W,W = v43.alloc (.cells (va1.vals h43) 27) := ⟨_,rfl⟩
            have hb43 : Below v43.heap.size v43 W43 := hW ▸ below_one _ _
            have HBW43 := hid (Trm.go HC43.out hb43)
            have HI43b := hid (carry HI43.out hb43)
            have HT43 := hid (show W43.heap[v43.heap.size]? = some (.cells (va1.vals h43) 27) from hW ▸ World.alloc_heap_new _ _)
            obtain ⟨q43,hq⟩ : ∃ b,b = v43.heap.size := ⟨_,rfl⟩
            rw [← hq] at HT43
            rw [← hW,← hq]
            have HT41 := hid (Lvl.keep hb43 HT41.out)
            have HI41b := hid (carry HI41b.out hb43)
            have HT42 := hid (Lvl.keep hb43 HT42.out)
            have HI42b := hid (carry HI42b.out hb43)
            clear hW hq hb43
            obtain ⟨u0,u1,u2,u3,u4⟩ := HUC.out W43 HBW43.out
            go_wp2_with fail
            refine (HC4.out W43 HBW43.out).mono ?_
            rintro y v44 ⟨h44,rfl,i44,b44⟩
            have HI44 := hid i44
            have HC44 := hid (Trm.go HBW43.out b44)
            have HT41 := hid (Lvl.keep b44 HT41.out)
            have HI41b := hid (carry HI41b.out b44)
            have HT42 := hid (Lvl.keep b44 HT42.out)
            have HI42b := hid (carry HI42b.out b44)
            have HT43 := hid (Lvl.keep b44 HT43.out)
            have HI43b := hid (carry HI43b.out b44)
            clear b44 i44 u0 u1 u2 u3 u4
            dsimp only
            unfold Tm.val
            go_upto_region 39 with (refine wpList_store_row rfl 27 (.tmp 29) (.tmp 233) rfl v44.heap.size (va1.vals h44) rfl rfl 27 _ (World.alloc_heap_new v44 _) HKT.out rfl (by kernel_rfl) ?_)
            rw [World.setRow_alloc_new]
            obtain ⟨W44,hW⟩ : ∃ W,W = v44.alloc (.cells (va1.vals h44) 27) := ⟨_,rfl⟩
            have hb44 : Below v44.heap.size v44 W44 := hW ▸ below_one _ _
            have HBW44 := hid (Trm.go HC44.out hb44)
            have HI44b := hid (carry HI44.out hb44)
            have HT44 := hid (show W44.heap[v44.heap.size]? = some (.cells (va1.vals h44) 27) from hW ▸ World.alloc_heap_new _ _)
            obtain ⟨q44,hq⟩ : ∃ b,b = v44.heap.size := ⟨_,rfl⟩
            rw [← hq] at HT44
            rw [← hW,← hq]
            have HT41 := hid (Lvl.keep hb44 HT41.out)
            have HI41b := hid (carry HI41b.out hb44)
            have HT42 := hid (Lvl.keep hb44 HT42.out)
            have HI42b := hid (carry HI42b.out hb44)
            have HT43 := hid (Lvl.keep hb44 HT43.out)
            have HI43b := hid (carry HI43b.out hb44)
            clear hW hq hb44
            have HSM1 := hid (show Calls Tryz.prog 29 #[ta1.val h41,ta1.val h42] W44 (fun e w' => e = .returned (.bool true) ∧ Below W44.heap.size W44 w') from (same_iff.2 rfl : same ta1 ta1 = true) ▸ RefSame_any ta1 ta1 h41 h42 W44 HI41b.out HI42b.out)
            have HSM2 := hid (fun (W : World) (hW : Below W44.heap.size W44 W) => (show Calls Tryz.prog 29 #[va1.val h43,va1.val h44] W (fun e w' => e = .returned (.bool true) ∧ Below W.heap.size W w') from (same_iff.2 rfl : same va1 va1 = true) ▸ RefSame_any va1 va1 h43 h44 W (carry HI43b.out hW) (carry HI44b.out hW)))
            obtain ⟨p0,p1,p2,p3,p4⟩ := Tm.cells (show W44.heap[q41]? = some (ta1.box h41) from HT41.out)
            obtain ⟨r0,r1,r2,r3,r4⟩ := Tm.cells (show W44.heap[q42]? = some (ta1.box h42) from HT42.out)
            unfold Tm.val Tm.vals at HSM1 HSM2
            go_wp2_with fail
            refine HSM1.out.mono ?_
            rintro y w45 ⟨rfl,b45⟩
            have HB45 := hid (Trm.go HBW44.out b45)
            have HSM3 := hid (HSM2.out w45 b45)
            have HT43c := hid (Lvl.keep b45 HT43.out)
            have HT44c := hid (Lvl.keep b45 HT44.out)
            clear b45 p0 p1 p2 p3 p4 r0 r1 r2 r3 r4
            obtain ⟨p0,p1,p2,p3,p4⟩ := Tm.cells (show w45.heap[q43]? = some (va1.box h43) from HT43c.out)
            obtain ⟨r0,r1,r2,r3,r4⟩ := Tm.cells (show w45.heap[q44]? = some (va1.box h44) from HT44c.out)
            go_wp2_with fail
            refine HSM3.out.mono ?_
            rintro y w46 ⟨rfl,b46⟩
            have HB46 := hid (Trm.go HB45.out b46)
            have hwj := (wk_two hjb).1
            have hwj2 := (wk_two hjb).2
            clear b46 p0 p1 p2 p3 p4 r0 r1 r2 r3 r4
            go_wp2_with fail
            go_roundw
            case rel => exact ⟨j + 1,by first | rfl | (rw [hwj]; rfl),HLJ.out,HB46.out⟩
            case measure => first | exact less_step rfl HLJ.out | exact less_step hwj HLJ.out
           ·have HPW := hid (HPL.out.below HBwr.out)
            have HNN : Hid (lookE M (key ⟨#[]⟩) = none) := hid (by
             unfold lookE
             rw [List.find?_eq_none]
             intro q hq hh
             have h1 := (HFIN.out q hq).2.1
             have h2 : q.2.1.name = ⟨#[]⟩ := key_eq (by simpa [ekey] using hh)
             rw [h2] at h1
             exact absurd h1 (by decide))
            have HEV := hid (HPW.out.many.env ⟨ea,M,mo,v⟩ (List.mem_cons_self ..))
            go_wp2_with fail
            refine (findP_any HEV.out ⟨#[]⟩ (by decide) HF2.out).mono ?_
            intro y w50 hfd
            obtain ⟨z50,h50,bz50,rfl,q50,hbb50,_⟩ := hfd.two
            have hbz : bz50 = false := by
             rw [Bool.eq_false_iff]
             intro hq
             have h0 := hbb50.1 hq
             rw [HNN.out] at h0
             cases h0
            subst hbz
            have HP50 := hid (HPW.out.below q50)
            clear hfd q50 hbb50
            dsimp only
            go_upto_region 42 with (refine wpList_store_row rfl 46 (.tmp 31) (.tmp 258) rfl w50.heap.size _ rfl rfl 46 Inf.zeros (World.alloc_heap_new _ _) HKR.out (HKZ.out _ _) (HKO.out _ _) ?_)
            rw [World.setRow_alloc_new]
            obtain ⟨W51,hW⟩ : ∃ W,W = w50.alloc (.cells (z50.vals h50).toArray 46) := ⟨_,rfl⟩
            have HP51 := hid (HP50.out.below (show Below w50.heap.size w50 W51 from hW ▸ below_one _ _))
            rw [← hW]
            clear hW HP50
            have HX51 := hid (Lvl.keep HP51.out.many.bel HBX.out)
            obtain ⟨x0,x1,x2,x3,x4⟩ := Tm.cells HX51.out
            have HMY := hid (RefTMay_any t ht W51 (carry HIA.out HP51.out.many.bel))
            unfold Tm.val Tm.vals at HMY
            cases hmay : t.may
            ·rw [hmay] at HMY
             go_wp2_with fail
             refine HMY.out.mono ?_
             rintro y w52 ⟨rfl,b52⟩
             have HP52 := hid (HP51.out.below b52)
             clear b52 x0 x1 x2 x3 x4
             have HBD := hid (show Below WA.heap.size WA w52.drew from HP52.out.many.bel.drew)
             have HXC := hid (show ∀ W : World,Below WA.heap.size WA W → W.cell? ⟨w.heap.size,0,none⟩ = some (.int .u8 t.k) ∧ W.cell? ⟨w.heap.size,1,none⟩ = some (.int .i64 t.n) ∧ W.cell? ⟨w.heap.size,2,none⟩ = some (.string t.s) ∧ W.cell? ⟨w.heap.size,3,none⟩ = some (.slice ht.lo t.ls.length ht.lc) ∧ W.cell? ⟨w.heap.size,4,none⟩ = some (.slice ht.to t.ts.length ht.tc) from fun W hW => by
              obtain ⟨x0,x1,x2,x3,x4⟩ := Tm.cells (Lvl.keep hW HBX.out)
              exact ⟨x0,x1,x2,x3,x4⟩)
             have HH := hid (height_no ea w52.drew t ht (carry HIA.out HBD.out) hmay)
             unfold Tm.val Tm.vals at HH
             go_wp2_with fail
             refine wp_region_held_drew (S := fun w' => w'.cell? ⟨w.heap.size,0,none⟩ = some (.int .u8 t.k) ∧ w'.cell? ⟨w.heap.size,1,none⟩ = some (.int .i64 t.n) ∧ w'.cell? ⟨w.heap.size,2,none⟩ = some (.string t.s) ∧ w'.cell? ⟨w.heap.size,3,none⟩ = some (.slice ht.lo t.ls.length ht.lc) ∧ w'.cell? ⟨w.heap.size,4,none⟩ = some (.slice ht.to t.ts.length ht.tc)) (by kernel_rfl) (HXC.out _ HBD.out) (fun hHeld => ?_)
             refine wpAnyH_take (i := 0) (v := ?vrn0) rfl (by kernel_rfl) (by kernel_rfl) (by kernel_rfl) (fun _ _ _ h => h) (Or.inl ⟨by rfl,?hyrn0⟩) (by assumption) ?restrn0
             case hyrn0 => (intro w hSw; (try dsimp only at hSw); go_simp <;> with_reducible rfl)
             try simp only [zqT,zqZ,Act.put,zqB,zq0,zq1]
             refine wpAnyH_take (i := 1) (v := ?vrn1) rfl (by kernel_rfl) (by kernel_rfl) (by kernel_rfl) (fun _ _ _ h => h) (Or.inl ⟨by rfl,?hyrn1⟩) (by assumption) ?restrn1
             case hyrn1 => (intro w hSw; (try dsimp only at hSw); go_simp <;> with_reducible rfl)
             try simp only [zqT,zqS,zqZ,Act.put,zqB,zq0,zq1]
             refine wpAnyH_take (i := 2) (v := ?vrn2) rfl (by kernel_rfl) (by kernel_rfl) (by kernel_rfl) (fun _ _ _ h => h) (Or.inl ⟨by rfl,?hyrn2⟩) (by assumption) ?restrn2
             case hyrn2 => (intro w hSw; (try dsimp only at hSw); go_simp <;> with_reducible rfl)
             try simp only [zqT,zqS,zqZ,Act.put,zqB,zq0,zq1]
             refine wpAnyH_take (i := 3) (v := ?vrn3) rfl (by kernel_rfl) (by kernel_rfl) (by kernel_rfl) (fun _ _ _ h => h) (Or.inl ⟨by rfl,?hyrn3⟩) (by assumption) ?restrn3
             case hyrn3 => (intro w hSw; (try dsimp only at hSw); go_simp <;> with_reducible rfl)
             try simp only [zqT,zqS,zqZ,Act.put,zqB,zq0,zq1]
             refine wpAnyH_take (i := 4) (v := ?vrn4) rfl (by kernel_rfl) (by kernel_rfl) (by kernel_rfl) (fun _ _ _ h => h) (Or.inl ⟨by rfl,?hyrn4⟩) (by assumption) ?restrn4
             case hyrn4 => (intro w hSw; (try dsimp only at hSw); go_simp <;> with_reducible rfl)
             try simp only [zqT,zqS,zqZ,Act.put,zqB,zq0,zq1]
             refine wpAnyH_take (i := 5) (v := undef) rfl (by kernel_rfl) (by kernel_rfl) (by kernel_rfl) (fun _ _ _ h => h) (Or.inr ⟨by rfl,rfl⟩) (by assumption) ?_
             try simp only [zqT,zqS,zqZ,Act.put,zqB,zq0,zq1]
             refine wpAnyH_take (i := 6) (v := undef) rfl (by kernel_rfl) (by kernel_rfl) (by kernel_rfl) (fun _ _ _ h => h) (Or.inr ⟨by rfl,rfl⟩) (by assumption) ?_
             try simp only [zqT,zqS,zqZ,Act.put,zqB,zq0,zq1]
             refine wpAnyH_take (i := 7) (v := undef) rfl (by kernel_rfl) (by kernel_rfl) (by kernel_rfl) (fun _ _ _ h => h) (Or.inr ⟨by rfl,rfl⟩) (by assumption) ?_
             try simp only [zqT,zqS,zqZ,Act.put,zqB,zq0,zq1]
             refine wpAnyH_take (i := 8) (v := undef) rfl (by kernel_rfl) (by kernel_rfl) (by kernel_rfl) (fun _ _ _ h => h) (Or.inr ⟨by rfl,rfl⟩) (by assumption) ?_
             try simp only [zqT,zqS,zqZ,Act.put,zqB,zq0,zq1]
             refine wpAnyH_take (i := 9) (v := undef) rfl (by kernel_rfl) (by kernel_rfl) (by kernel_rfl) (fun _ _ _ h => h) (Or.inr ⟨by rfl,rfl⟩) (by assumption) ?_
             try simp only [zqT,zqS,zqZ,Act.put,zqB,zq0,zq1]
             refine wpAnyH_take (i := 10) (v := undef) rfl (by kernel_rfl) (by kernel_rfl) (by kernel_rfl) (fun _ _ _ h => h) (Or.inr ⟨by rfl,rfl⟩) (by assumption) ?_
             try simp only [zqT,zqS,zqZ,Act.put,zqB,zq0,zq1]
             refine wpAnyH_take (i := 11) (v := undef) rfl (by kernel_rfl) (by kernel_rfl) (by kernel_rfl) (fun _ _ _ h => h) (Or.inr ⟨by rfl,rfl⟩) (by assumption) ?_
             try simp only [zqT,zqS,zqZ,Act.put,zqB,zq0,zq1]
             refine wpAnyH_take (i := 12) (v := ?vrn12) rfl (by kernel_rfl) (by kernel_rfl) (by kernel_rfl) (fun _ _ _ h => h) (Or.inl ⟨by rfl,?hyrn12⟩) (by assumption) ?restrn12
             case hyrn12 => (intro w hSw; (try dsimp only at hSw); go_simp <;> with_reducible rfl)
             try simp only [zqT,zqS,zqZ,Act.put,zqB,zq0,zq1]
             refine wpAnyH_take (i := 13) (v := ?vrn13) rfl (by kernel_rfl) (by kernel_rfl) (by kernel_rfl) (fun _ _ _ h => h) (Or.inl ⟨by rfl,?hyrn13⟩) (by assumption) ?restrn13
             case hyrn13 => (intro w hSw; (try dsimp only at hSw); go_simp <;> with_reducible rfl)
             try simp only [zqT,zqS,zqZ,Act.put,zqB,zq0,zq1]
             refine wpAnyH_take (i := 14) (v := ?vrn14) rfl (by kernel_rfl) (by kernel_rfl) (by kernel_rfl) (fun _ _ _ h => h) (Or.inl ⟨by rfl,?hyrn14⟩) (by assumption) ?restrn14
             case hyrn14 => (intro w hSw; (try dsimp only at hSw); go_simp <;> with_reducible rfl)
             try simp only [zqT,zqS,zqZ,Act.put,zqB,zq0,zq1]
             refine wpAnyH_take (i := 15) (v := ?vrn15) rfl (by kernel_rfl) (by kernel_rfl) (by kernel_rfl) (fun _ _ _ h => h) (Or.inl ⟨by rfl,?hyrn15⟩) (by assumption) ?restrn15
             case hyrn15 => (intro w hSw; (try dsimp only at hSw); go_simp <;> with_reducible rfl)
             try simp only [zqT,zqS,zqZ,Act.put,zqB,zq0,zq1]
             refine wpAnyH_take (i := 16) (v := ?vrn16) rfl (by kernel_rfl) (by kernel_rfl) (by kernel_rfl) (fun _ _ _ h => h) (Or.inl ⟨by rfl,?hyrn16⟩) (by assumption) ?restrn16
             case hyrn16 => (intro w hSw; (try dsimp only at hSw); go_simp <;> with_reducible rfl)
             try simp only [zqT,zqS,zqZ,Act.put,zqB,zq0,zq1]
             refine wpAnyH_take (i := 17) (v := ?vrn17) rfl (by kernel_rfl) (by kernel_rfl) (by kernel_rfl) (fun _ _ _ h => h) (Or.inl ⟨by rfl,?hyrn17⟩) (by assumption) ?restrn17
             case hyrn17 => (intro w hSw; (try dsimp only at hSw); go_simp <;> with_reducible rfl)
             try simp only [zqT,zqS,zqZ,Act.put,zqB,zq0,zq1]
             refine wpAnyH_take (i := 18) (v := ?vrn18) rfl (by kernel_rfl) (by kernel_rfl) (by kernel_rfl) (fun _ _ _ h => h) (Or.inl ⟨by rfl,?hyrn18⟩) (by assumption) ?restrn18
             case hyrn18 => (intro w hSw; (try dsimp only at hSw); go_simp <;> with_reducible rfl)
             try simp only [zqT,zqS,zqZ,Act.put,zqB,zq0,zq1]
             refine wpAnyH_ready (rs := [19]) (by kernel_rfl) (by simp) ?_
             refine AllReadyH.cons rfl (fun K hK => ?_) AllReadyH.nil
             go_simp
             refine HH.out.mono ?_
             rintro y v3 ⟨rfl,c3⟩
             have HB60 := hid (Trm.go HBD.out c3)
             clear c3
             refine hK.out _ _ (HXC.out _ HB60.out) (fun hHeld => ?_)
             clear hK K
             try simp only [zqT,zqS,zqZ,Act.put,zqB,zq0,zq1]
             refine wpAnyH_take (i := 20) (v := ?vrn20) rfl (by kernel_rfl) (by kernel_rfl) (by kernel_rfl) (fun _ _ _ h => h) (Or.inl ⟨by rfl,?hyrn20⟩) (by assumption) ?restrn20
             case hyrn20 => (intro w hSw; (try dsimp only at hSw); go_simp <;> with_reducible rfl)
             try simp only [zqT,zqS,zqZ,Act.put,zqB,zq0,zq1]
             refine wpAnyH_take (i := 21) (v := ?vrn21) rfl (by kernel_rfl) (by kernel_rfl) (by kernel_rfl) (fun _ _ _ h => h) (Or.inl ⟨by rfl,?hyrn21⟩) (by assumption) ?restrn21
             case hyrn21 => (intro w hSw; (try dsimp only at hSw); go_simp <;> with_reducible rfl)
             try simp only [zqT,zqS,zqZ,Act.put,zqB,zq0,zq1]
             refine wpAnyH_take (i := 22) (v := ?vrn22) rfl (by kernel_rfl) (by kernel_rfl) (by kernel_rfl) (fun _ _ _ h => h) (Or.inl ⟨by rfl,?hyrn22⟩) (by assumption) ?restrn22
             case hyrn22 => (intro w hSw; (try dsimp only at hSw); go_simp <;> with_reducible rfl)
             try simp only [zqT,zqS,zqZ,Act.put,zqB,zq0,zq1]
             refine wpAnyH_take (i := 23) (v := ?vrn23) rfl (by kernel_rfl) (by kernel_rfl) (by kernel_rfl) (fun _ _ _ h => h) (Or.inl ⟨by rfl,?hyrn23⟩) (by assumption) ?restrn23
             case hyrn23 => (intro w hSw; (try dsimp only at hSw); go_simp <;> with_reducible rfl)
             try simp only [zqT,zqS,zqZ,Act.put,zqB,zq0,zq1]
             refine wpAnyH_take (i := 24) (v := ?vrn24) rfl (by kernel_rfl) (by kernel_rfl) (by kernel_rfl) (fun _ _ _ h => h) (Or.inl ⟨by rfl,?hyrn24⟩) (by assumption) ?restrn24
             case hyrn24 => (intro w hSw; (try dsimp only at hSw); go_simp <;> with_reducible rfl)
             try simp only [zqT,zqS,zqZ,Act.put,zqB,zq0,zq1]
             refine wpAnyH_ready (rs := [25]) (by kernel_rfl) (by simp) ?_
             refine AllReadyH.cons rfl (fun K hK => ?_) AllReadyH.nil
             go_simp
             refine (works7_any _).mono ?_
             rintro y wz ⟨rfl,bz⟩
             have HB61 := hid (Trm.go HB60.out bz)
             have HBZ := hid (Trm.go HBA.out HB61.out)
             clear bz
             refine hK.out _ _ (HXC.out _ HB61.out) (fun hHeld => ?_)
             clear hK K
             try simp only [zqT,zqS,zqZ,Act.put,zqB,zq0,zq1]
             refine wpAnyH_take (i := 26) (v := ?vrn26) rfl (by kernel_rfl) (by kernel_rfl) (by kernel_rfl) (fun _ _ _ h => h) (Or.inl ⟨by rfl,?hyrn26⟩) (by assumption) ?restrn26
             case hyrn26 => (intro w hSw; (try dsimp only at hSw); go_simp <;> with_reducible rfl)
             try simp only [zqT,zqS,zqZ,Act.put,zqB,zq0,zq1]
             refine wpAnyH_take (i := 27) (v := ?vrn27) rfl (by kernel_rfl) (by kernel_rfl) (by kernel_rfl) (fun _ _ _ h => h) (Or.inl ⟨by rfl,?hyrn27⟩) (by assumption) ?restrn27
             case hyrn27 => (intro w hSw; (try dsimp only at hSw); go_simp <;> with_reducible rfl)
             try simp only [zqT,zqS,zqZ,Act.put,zqB,zq0,zq1]
             refine wpAnyH_done (by kernel_rfl) ?_ _
             go_wp2_with fail
             go_ret
             exact ⟨rfl,HBZ.out⟩
            ·rw [hmay] at HMY
             go_wp2_with fail
             refine HMY.out.mono ?_
             rintro y w52 ⟨rfl,b52⟩
             have HP52 := hid (HP51.out.below b52)
             clear b52 x0 x1 x2 x3 x4
             have HBD0 := hid (show Below w52.heap.size w52 w52.drew from (Below.refl _ _).drew)
             have HBD := hid (show Below WA.heap.size WA w52.drew from HP52.out.many.bel.drew)
             have HXC := hid (show ∀ W : World,Below WA.heap.size WA W → W.cell? ⟨w.heap.size,0,none⟩ = some (.int .u8 t.k) ∧ W.cell? ⟨w.heap.size,1,none⟩ = some (.int .i64 t.n) ∧ W.cell? ⟨w.heap.size,2,none⟩ = some (.string t.s) ∧ W.cell? ⟨w.heap.size,3,none⟩ = some (.slice ht.lo t.ls.length ht.lc) ∧ W.cell? ⟨w.heap.size,4,none⟩ = some (.slice ht.to t.ts.length ht.tc) from fun W hW => by
              obtain ⟨x0,x1,x2,x3,x4⟩ := Tm.cells (Lvl.keep hW HBX.out)
              exact ⟨x0,x1,x2,x3,x4⟩)
             obtain ⟨H,hH⟩ : ∃ q,q = maxH M t.nms := ⟨_,rfl⟩
             have HH := hid (show Calls Tryz.prog 31 #[.pointer (some ⟨ea,0,none⟩),t.val ht] w52.drew (fun y w' => y = .returned (.int .i64 H) ∧ Below w52.drew.heap.size w52.drew w') from hH ▸ height_any ((HP52.out.below HBD0.out).many.env ⟨ea,M,mo,v⟩ (List.mem_cons_self ..)).env t ht (carry HIA.out HBD.out) hmay)
             have HH7 := hid (fun (W : World) (hW : Below w52.heap.size w52 W) => (show Calls Tryz.prog 32 #[.pointer (some ⟨r,0,none⟩),t.val ht] W (fun y w' => y = .returned (.int .i64 H) ∧ Below W.heap.size W w') from hH ▸ height7_any HINF.out (HP52.out.below hW).ref.ctx (fun y hy => by
              obtain ⟨p,hp,rfl⟩ := List.mem_map.1 hy
              have h0 := HPL.out.ref.hgt p hp
              have h1 := HPL.out.ref.few
              omega) t ht (carry HIA.out (HP52.out.below hW).many.bel) hmay))
             unfold Tm.val Tm.vals at HH HH7
             clear hH
             go_wp2_with fail
             refine wp_region_held_drew (S := fun w' => w'.cell? ⟨w.heap.size,0,none⟩ = some (.int .u8 t.k) ∧ w'.cell? ⟨w.heap.size,1,none⟩ = some (.int .i64 t.n) ∧ w'.cell? ⟨w.heap.size,2,none⟩ = some (.string t.s) ∧ w'.cell? ⟨w.heap.size,3,none⟩ = some (.slice ht.lo t.ls.length ht.lc) ∧ w'.cell? ⟨w.heap.size,4,none⟩ = some (.slice ht.to t.ts.length ht.tc)) (by kernel_rfl) (HXC.out _ HBD.out) (fun hHeld => ?_)
             refine wpAnyH_take (i := 0) (v := ?vry0) rfl (by kernel_rfl) (by kernel_rfl) (by kernel_rfl) (fun _ _ _ h => h) (Or.inl ⟨by rfl,?hyry0⟩) (by assumption) ?restry0
             case hyry0 => (intro w hSw; (try dsimp only at hSw); go_simp <;> with_reducible rfl)
             try simp only [zqT,zqZ,Act.put,zqB,zq0,zq1]
             refine wpAnyH_take (i := 1) (v := ?vry1) rfl (by kernel_rfl) (by kernel_rfl) (by kernel_rfl) (fun _ _ _ h => h) (Or.inl ⟨by rfl,?hyry1⟩) (by assumption) ?restry1
             case hyry1 => (intro w hSw; (try dsimp only at hSw); go_simp <;> with_reducible rfl)
             try simp only [zqT,zqS,zqZ,Act.put,zqB,zq0,zq1]
             refine wpAnyH_take (i := 2) (v := ?vry2) rfl (by kernel_rfl) (by kernel_rfl) (by kernel_rfl) (fun _ _ _ h => h) (Or.inl ⟨by rfl,?hyry2⟩) (by assumption) ?restry2
             case hyry2 => (intro w hSw; (try dsimp only at hSw); go_simp <;> with_reducible rfl)
             try simp only [zqT,zqS,zqZ,Act.put,zqB,zq0,zq1]
             refine wpAnyH_take (i := 3) (v := ?vry3) rfl (by kernel_rfl) (by kernel_rfl) (by kernel_rfl) (fun _ _ _ h => h) (Or.inl ⟨by rfl,?hyry3⟩) (by assumption) ?restry3
             case hyry3 => (intro w hSw; (try dsimp only at hSw); go_simp <;> with_reducible rfl)
             try simp only [zqT,zqS,zqZ,Act.put,zqB,zq0,zq1]
             refine wpAnyH_take (i := 4) (v := ?vry4) rfl (by kernel_rfl) (by kernel_rfl) (by kernel_rfl) (fun _ _ _ h => h) (Or.inl ⟨by rfl,?hyry4⟩) (by assumption) ?restry4
             case hyry4 => (intro w hSw; (try dsimp only at hSw); go_simp <;> with_reducible rfl)
             try simp only [zqT,zqS,zqZ,Act.put,zqB,zq0,zq1]
             refine wpAnyH_take (i := 5) (v := ?vry5) rfl (by kernel_rfl) (by kernel_rfl) (by kernel_rfl) (fun _ _ _ h => h) (Or.inl ⟨by rfl,?hyry5⟩) (by assumption) ?restry5
             case hyry5 => (intro w hSw; (try dsimp only at hSw); go_simp <;> with_reducible rfl)
             try simp only [zqT,zqS,zqZ,Act.put,zqB,zq0,zq1]
             refine wpAnyH_take (i := 6) (v := ?vry6) rfl (by kernel_rfl) (by kernel_rfl) (by kernel_rfl) (fun _ _ _ h => h) (Or.inl ⟨by rfl,?hyry6⟩) (by assumption) ?restry6
             case hyry6 => (intro w hSw; (try dsimp only at hSw); go_simp <;> with_reducible rfl)
             try simp only [zqT,zqS,zqZ,Act.put,zqB,zq0,zq1]
             refine wpAnyH_take (i := 8) (v := ?vry8) rfl (by kernel_rfl) (by kernel_rfl) (by kernel_rfl) (fun _ _ _ h => h) (Or.inl ⟨by rfl,?hyry8⟩) (by assumption) ?restry8
             case hyry8 => (intro w hSw; (try dsimp only at hSw); go_simp <;> with_reducible rfl)
             try simp only [zqT,zqS,zqZ,Act.put,zqB,zq0,zq1]
             refine wpAnyH_take (i := 9) (v := ?vry9) rfl (by kernel_rfl) (by kernel_rfl) (by kernel_rfl) (fun _ _ _ h => h) (Or.inl ⟨by rfl,?hyry9⟩) (by assumption) ?restry9
             case hyry9 => (intro w hSw; (try dsimp only at hSw); go_simp <;> with_reducible rfl)
             try simp only [zqT,zqS,zqZ,Act.put,zqB,zq0,zq1]
             refine wpAnyH_ready (rs := [7]) (by kernel_rfl) (by simp) ?_
             refine AllReadyH.cons rfl (fun K hK => ?_) AllReadyH.nil
             go_simp
             refine HH.out.mono ?_
             rintro y v3 ⟨rfl,c3⟩
             have HB60 := hid (Trm.go HBD0.out c3)
             have HB60A := hid (Trm.go HP52.out.many.bel HB60.out)
             clear c3
             refine hK.out _ _ (HXC.out _ HB60A.out) (fun hHeld => ?_)
             clear hK K
             try simp only [zqT,zqS,zqZ,Act.put,zqB,zq0,zq1]
             refine wpAnyH_ready (rs := [10]) (by kernel_rfl) (by simp) ?_
             refine AllReadyH.cons rfl (fun K hK => ?_) AllReadyH.nil
             go_simp
             refine (HH7.out _ HB60.out).mono ?_
             rintro y v4 ⟨rfl,c4⟩
             have HB61 := hid (Trm.go HB60A.out c4)
             clear c4
             refine hK.out _ _ (HXC.out _ HB61.out) (fun hHeld => ?_)
             clear hK K
             try simp only [zqT,zqS,zqZ,Act.put,zqB,zq0,zq1]
             refine wpAnyH_take (i := 11) (v := ?vry11) rfl (by kernel_rfl) (by kernel_rfl) (by kernel_rfl) (fun _ _ _ h => h) (Or.inl ⟨by rfl,?hyry11⟩) (by assumption) ?restry11
             case hyry11 => (intro w hSw; (try dsimp only at hSw); go_simp <;> with_reducible rfl)
             try simp only [zqT,zqS,zqZ,Act.put,zqB,zq0,zq1]
             refine wpAnyH_take (i := 12) (v := ?vry12) rfl (by kernel_rfl) (by kernel_rfl) (by kernel_rfl) (fun _ _ _ h => h) (Or.inl ⟨by rfl,?hyry12⟩) (by assumption) ?restry12
             case hyry12 => (intro w hSw; (try dsimp only at hSw); go_simp <;> with_reducible rfl)
             try simp only [zqT,zqS,zqZ,Act.put,zqB,zq0,zq1]
             refine wpAnyH_take (i := 13) (v := ?vry13) rfl (by kernel_rfl) (by kernel_rfl) (by kernel_rfl) (fun _ _ _ h => h) (Or.inl ⟨by rfl,?hyry13⟩) (by assumption) ?restry13
             case hyry13 => (intro w hSw; (try dsimp only at hSw); go_simp <;> with_reducible rfl)
             try simp only [zqT,zqS,zqZ,Act.put,zqB,zq0,zq1]
             refine wpAnyH_take (i := 14) (v := undef) rfl (by kernel_rfl) (by kernel_rfl) (by kernel_rfl) (fun _ _ _ h => h) (Or.inr ⟨by rfl,rfl⟩) (by assumption) ?_
             try simp only [zqT,zqS,zqZ,Act.put,zqB,zq0,zq1]
             refine wpAnyH_take (i := 15) (v := undef) rfl (by kernel_rfl) (by kernel_rfl) (by kernel_rfl) (fun _ _ _ h => h) (Or.inr ⟨by rfl,rfl⟩) (by assumption) ?_
             try simp only [zqT,zqS,zqZ,Act.put,zqB,zq0,zq1]
             refine wpAnyH_take (i := 16) (v := undef) rfl (by kernel_rfl) (by kernel_rfl) (by kernel_rfl) (fun _ _ _ h => h) (Or.inr ⟨by rfl,rfl⟩) (by assumption) ?_
             try simp only [zqT,zqS,zqZ,Act.put,zqB,zq0,zq1]
             refine wpAnyH_take (i := 17) (v := undef) rfl (by kernel_rfl) (by kernel_rfl) (by kernel_rfl) (fun _ _ _ h => h) (Or.inr ⟨by rfl,rfl⟩) (by assumption) ?_
             try simp only [zqT,zqS,zqZ,Act.put,zqB,zq0,zq1]
             refine wpAnyH_take (i := 18) (v := undef) rfl (by kernel_rfl) (by kernel_rfl) (by kernel_rfl) (fun _ _ _ h => h) (Or.inr ⟨by rfl,rfl⟩) (by assumption) ?_
             try simp only [zqT,zqS,zqZ,Act.put,zqB,zq0,zq1]
             refine wpAnyH_take (i := 19) (v := undef) rfl (by kernel_rfl) (by kernel_rfl) (by kernel_rfl) (fun _ _ _ h => h) (Or.inr ⟨by rfl,rfl⟩) (by assumption) ?_
             try simp only [zqT,zqS,zqZ,Act.put,zqB,zq0,zq1]
             refine wpAnyH_take (i := 20) (v := undef) rfl (by kernel_rfl) (by kernel_rfl) (by kernel_rfl) (fun _ _ _ h => h) (Or.inr ⟨by rfl,rfl⟩) (by assumption) ?_
             try simp only [zqT,zqS,zqZ,Act.put,zqB,zq0,zq1]
             refine wpAnyH_take (i := 21) (v := undef) rfl (by kernel_rfl) (by kernel_rfl) (by kernel_rfl) (fun _ _ _ h => h) (Or.inr ⟨by rfl,rfl⟩) (by assumption) ?_
             try simp only [zqT,zqS,zqZ,Act.put,zqB,zq0,zq1]
             refine wpAnyH_take (i := 22) (v := ?vry22) rfl (by kernel_rfl) (by kernel_rfl) (by kernel_rfl) (fun _ _ _ h => h) (Or.inl ⟨by rfl,?hyry22⟩) (by assumption) ?restry22
             case hyry22 => (intro w hSw; (try dsimp only at hSw); go_simp <;> with_reducible rfl)
             try simp only [zqT,zqS,zqZ,Act.put,zqB,zq0,zq1]
             refine wpAnyH_take (i := 23) (v := ?vry23) rfl (by kernel_rfl) (by kernel_rfl) (by kernel_rfl) (fun _ _ _ h => h) (Or.inl ⟨by rfl,?hyry23⟩) (by assumption) ?restry23
             case hyry23 => (intro w hSw; (try dsimp only at hSw); go_simp <;> with_reducible rfl)
             try simp only [zqT,zqS,zqZ,Act.put,zqB,zq0,zq1]
             refine wpAnyH_take (i := 24) (v := ?vry24) rfl (by kernel_rfl) (by kernel_rfl) (by kernel_rfl) (fun _ _ _ h => h) (Or.inl ⟨by rfl,?hyry24⟩) (by assumption) ?restry24
             case hyry24 => (intro w hSw; (try dsimp only at hSw); go_simp <;> with_reducible rfl)
             try simp only [zqT,zqS,zqZ,Act.put,zqB,zq0,zq1]
             refine wpAnyH_ready (rs := [25]) (by kernel_rfl) (by simp) ?_
             refine AllReadyH.cons rfl (fun K hK => ?_) AllReadyH.nil
             go_simp
             refine (works7_any _).mono ?_
             rintro y wz ⟨rfl,bz⟩
             have HB62 := hid (Trm.go HB61.out bz)
             have HBZ := hid (Trm.go HBA.out HB62.out)
             clear bz
             refine hK.out _ _ (HXC.out _ HB62.out) (fun hHeld => ?_)
             clear hK K
             try simp only [zqT,zqS,zqZ,Act.put,zqB,zq0,zq1]
             refine wpAnyH_take (i := 26) (v := ?vry26) rfl (by kernel_rfl) (by kernel_rfl) (by kernel_rfl) (fun _ _ _ h => h) (Or.inl ⟨by rfl,?hyry26⟩) (by assumption) ?restry26
             case hyry26 => (intro w hSw; (try dsimp only at hSw); go_simp <;> with_reducible rfl)
             try simp only [zqT,zqS,zqZ,Act.put,zqB,zq0,zq1]
             refine wpAnyH_take (i := 27) (v := ?vry27) rfl (by kernel_rfl) (by kernel_rfl) (by kernel_rfl) (fun _ _ _ h => h) (Or.inl ⟨by rfl,?hyry27⟩) (by assumption) ?restry27
             case hyry27 => (intro w hSw; (try dsimp only at hSw); go_simp <;> with_reducible rfl)
             try simp only [zqT,zqS,zqZ,Act.put,zqB,zq0,zq1]
             refine wpAnyH_done (by kernel_rfl) ?_ _
             go_wp2_with fail
             go_ret
             exact ⟨rfl,HBZ.out⟩
   ·rw [hdeep] at HDP1
    go_wp2_with fail
    refine HDP1.out.mono ?_
    rintro y w2 ⟨rfl,b2⟩
    have HB2 := hid (Trm.go HB1.out b2)
    clear b2
    go_wp2_with fail
    refine (works7_any _).mono ?_
    rintro y wz ⟨rfl,bz⟩
    have HBZ := hid (Trm.go HBA.out (Trm.go HB2.out bz))
    clear bz
    go_wp2_with fail
    go_ret
    exact ⟨rfl,HBZ.out⟩
end Go.Proofs.YtiekbhlnnmnklaaGreat
