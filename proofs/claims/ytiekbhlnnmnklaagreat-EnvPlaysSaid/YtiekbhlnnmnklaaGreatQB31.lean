/-
 battenlaw07.works: the chapter's example.
-/
import Derived.Lib.Hide
import Derived.Test.YtiekbhlnnmnklaaGreatQB1
import Derived.Test.YtiekbhlnnmnklaaGreatQB29
import Derived.Test.YtiekbhlnnmnklaaGreatQB9
import Derived.Test.YtiekbhlnnmnklaaGreatQB30
import Derived.Great.Walk
open Go.Lib (hid)
set_option maxRecDepth 100000
set_option maxHeartbeats 32000000
namespace Go.Proofs.YtiekbhlnnmnklaaGreat
open Go.RowKit Go.Shelf Go.Maps Lvl Trm Env
namespace Env
def L1 (b : Nat) (h : IHd) : List Ent := [(b,fixI [] (ax ⟨#[65]⟩ tS),h)]
def L2 (b : Nat) (h : IHd) (b2 : Nat) (h2 : IHd) : List Ent := L1 b h ++ [(b2,fixI (L1 b h) (df ⟨#[68]⟩ tS (tC ⟨#[65]⟩)),h2)]
theorem a1 : addA [] [(ax ⟨#[65]⟩ tS)] = 0 := (addA_is _ _).trans (by kernel_rfl)
theorem a2 (b : Nat) (h : IHd) : addA (L1 b h) [(ax ⟨#[65]⟩ tS)] = 5 := (addA_is _ _).trans (by kernel_rfl)
theorem a3 (b : Nat) (h : IHd) : addA (L1 b h) [(ax ⟨#[99]⟩ (tC ⟨#[66]⟩))] = 6 := (addA_is _ _).trans (by kernel_rfl)
theorem a4 (b : Nat) (h : IHd) : addA (L1 b h) [(df ⟨#[68]⟩ tS (tC ⟨#[65]⟩))] = 0 := (addA_is _ _).trans (by kernel_rfl)
theorem a5 (b : Nat) (h : IHd) (b2 : Nat) (h2 : IHd) : lookE (L2 b h b2 h2) (key ⟨#[68]⟩) = some (b2,fixI (L1 b h) (df ⟨#[68]⟩ tS (tC ⟨#[65]⟩)),h2) := by kernel_rfl
theorem a6 (b : Nat) (h : IHd) : (fixI (L1 b h) (df ⟨#[68]⟩ tS (tC ⟨#[65]⟩))).height = 1 := by kernel_rfl
theorem a7 (b : Nat) (h : IHd) (b2 : Nat) (h2 : IHd) : tyAns (L2 b h b2 h2) (tC ⟨#[65]⟩) = (tS,0) := tyAns_zero (p := (b,fixI [] (ax ⟨#[65]⟩ tS),h)) (by kernel_rfl) rfl (by kernel_rfl) (by kernel_rfl)
theorem a8 (b : Nat) (h : IHd) (b2 : Nat) (h2 : IHd) : maxH (L2 b h b2 h2) (tC ⟨#[68]⟩).nms = 1 := by kernel_rfl
theorem a9 (b : Nat) (h : IHd) (b2 : Nat) (h2 : IHd) : ∀ p ∈ L2 b h b2 h2,p.2.1.rules.length ≤ 1000 := fun p hp => by
 simp [L2,L1] at hp
 rcases hp with rfl | rfl <;> (show (0 : Nat) ≤ 1000; omega)
end Env
theorem works7_any (w : World) : Calls Tryz.prog 16 #[] w fun e w' => e = .returned (.bool true) ∧ Below w.heap.size w w' := by
 have HKR : ∀ {x : Inf} {h : IHd},Hid ((Tryz.prog.info? 46).map (·.size) = some (x.vals h).toArray.size) := fun {x h} => hid infoInf
 have HKZ : Hid (∀ (x : Inf) (h : IHd),Inf.zeros.size = (x.vals h).toArray.size) := hid (fun _ _ => rfl)
 have HKO : Hid (∀ (x : Inf) (h : IHd),(x.vals h).toArray.all (·.oneCell') = true) := hid (fun x h => vals_one x h)
 go_enter Tryz.func16,Tryz.ntmps16
 go_wp2_with fail
 refine (envNew_any _).mono ?_
 rintro y w1 ⟨rfl,hw1⟩
 obtain ⟨e,P1,H1⟩ : ∃ (e : Nat) (P1 : Nat → Prop),Hid (e = w.heap.size ∧ WS w w1 P1 e [] none (.slice none 0 0)) := ⟨w.heap.size,_,hid ⟨rfl,hw1 ▸ WS.new (Below.refl _ _)⟩⟩
 rw [← H1.out.1]
 replace H1 := hid H1.out.2
 clear hw1
 go_wp2_with fail
 refine (SE_any _).mono ?_
 rintro y w2 ⟨hS,rfl,b2,f2⟩
 have H2 := hid (H1.out.below b2)
 have FA := hid (ax_firm (s := ⟨#[65]⟩) (by decide) (f2 P1 H1.out.env.lt))
 obtain ⟨hA,hhA⟩ : ∃ hA : IHd,hA = { zIHd with ty := hS } := ⟨_,rfl⟩
 clear b2 f2 H1
 go_upto_region 3 with (first
  | (refine wpList_buildTo rfl 46 _ rfl (some 13) rfl ((ax ⟨#[65]⟩ tS).vals { zIHd with ty := hS }).toArray (by kernel_rfl) ?_)
  | (refine wpList_store_row rfl 46 (.tmp 2) (.tmp 13) rfl w2.heap.size _ rfl rfl 46 Inf.zeros (World.alloc_heap_new w2 _) HKR.out (HKZ.out _ _) (HKO.out _ _) ?_))
 rw [World.setRow_alloc_new]
 rw [← hhA] at FA ⊢
 obtain ⟨W2,hW2⟩ : ∃ W2,W2 = w2.alloc (.cells ((ax ⟨#[65]⟩ tS).vals hA).toArray 46) := ⟨_,rfl⟩
 obtain ⟨bA,hbA⟩ : ∃ bA,bA = w2.heap.size := ⟨_,rfl⟩
 have HA2 := hid (show HoldI P1 W2 bA (ax ⟨#[65]⟩ tS) hA from by rw [hW2,hbA]; exact HoldI.new FA.out H2.out.env.lt)
 have H2b := hid (H2.out.below (show Below w2.heap.size w2 W2 from hW2 ▸ below_one _ _))
 rw [← hW2,← hbA]
 clear hW2 hbA hhA H2 FA
 have hrow := HA2.out.1
 go_wp2_with (first
  | (refine wpList_load_row rfl 46 (.tmp 2) rfl bA rfl 46 _ (0,0) _ hrow Tryz.underlying46 rfl HKR.out ?_)
  | (refine Go.Great.wpList_buildSliceTo rfl 22 46 1 _ rfl W2.heap.size rfl (some 16) rfl Tryz.underlying22 ((ax ⟨#[65]⟩ tS).vals hA).toArray (by kernel_rfl) ?_))
 clear hrow
 refine (H2b.out.addOne HA2.out.2.2 (by decide)).mono ?_
 rintro y w3 ⟨rfl,M,mo3,v3,P3,hto,hws,hst⟩
 obtain ⟨bE,hE,hM⟩ := (hto.yes a1).one
 have hM2 : M = L1 bE hE := hM
 subst hM2
 have H3 := hid hws
 have HA3 := hid (HA2.out.step hst)
 rw [a1]
 clear hM hto hws hst H2b HA2
 have hrow := HA3.out.1
 go_wp2_with (first
  | (refine wpList_load_row rfl 46 (.tmp 2) rfl bA rfl 46 _ (0,0) _ hrow Tryz.underlying46 rfl HKR.out ?_)
  | (refine Go.Great.wpList_buildSliceTo rfl 22 46 1 _ rfl w3.heap.size rfl (some 20) rfl Tryz.underlying22 ((ax ⟨#[65]⟩ tS).vals hA).toArray (by kernel_rfl) ?_))
 clear hrow
 refine (H3.out.addOne HA3.out.2.2 (by decide)).mono ?_
 rintro y w4 ⟨rfl,M,mo4,v4,P4,hto,hws,hst⟩
 have hM2 : M = L1 bE hE := hto.no (by rw [a2]; decide)
 subst hM2
 have H4 := hid hws
 rw [a2]
 clear hto hws hst H3 HA3
 go_wp2_with fail
 refine (CE_any _ _).mono ?_
 rintro y w5 ⟨rfl,b5⟩
 have H5 := hid (H4.out.below b5)
 clear b5 H4
 go_wp2_with (first
  | (refine wpList_buildTo rfl 46 _ rfl (some 24) rfl ((ax ⟨#[99]⟩ (tC ⟨#[66]⟩)).vals zIHd).toArray (by kernel_rfl) ?_)
  | (refine Go.Great.wpList_buildSliceTo rfl 22 46 1 _ rfl w5.heap.size rfl (some 25) rfl Tryz.underlying22 ((ax ⟨#[99]⟩ (tC ⟨#[66]⟩)).vals zIHd).toArray (by kernel_rfl) ?_))
 refine (H5.out.addOne (ax_firm (by decide) (C_firm _ (by decide))) (by decide)).mono ?_
 rintro y w6 ⟨rfl,M,mo6,v6,P6,hto,hws,hst⟩
 have hM2 : M = L1 bE hE := hto.no (by rw [a3]; decide)
 subst hM2
 have H6 := hid hws
 rw [a3]
 clear hto hws hst H5
 go_wp2_with fail
 refine (SE_any _).mono ?_
 rintro y w7 ⟨hS7,rfl,b7,f7⟩
 have H7 := hid (H6.out.below b7)
 have F7 := hid (f7 P6 H6.out.env.lt)
 clear b7 f7 H6
 go_wp2_with fail
 refine (CE_any _ _).mono ?_
 rintro y w8 ⟨rfl,b8⟩
 have H8 := hid (H7.out.below b8)
 have F8 := hid (df_firm (s := ⟨#[68]⟩) (by decide) (F7.out.step (RanS.of_below b8)) (C_firm (P := P6) (w := w8) ⟨#[65]⟩ (by decide)))
 clear b8 H7 F7
 go_wp2_with (first
  | (refine wpList_buildTo rfl 46 _ rfl (some 30) rfl ((df ⟨#[68]⟩ tS (tC ⟨#[65]⟩)).vals { zIHd with ty := hS7,va := zHd }).toArray (by kernel_rfl) ?_)
  | (refine Go.Great.wpList_buildSliceTo rfl 22 46 1 _ rfl w8.heap.size rfl (some 31) rfl Tryz.underlying22 ((df ⟨#[68]⟩ tS (tC ⟨#[65]⟩)).vals { zIHd with ty := hS7,va := zHd }).toArray (by kernel_rfl) ?_))
 refine (H8.out.addOne F8.out (by decide)).mono ?_
 rintro y w9 ⟨rfl,M,mo9,v9,P9,hto,hws,hst⟩
 obtain ⟨bD,hD,hM⟩ := (hto.yes (a4 _ _)).one
 have hM2 : M = L2 bE hE bD hD := hM
 subst hM2
 have H9 := hid hws
 rw [a4]
 clear hM hto hws hst H8 F8
 go_wp2_with fail
 refine (findP_any H9.out.env _ (by decide) (a9 _ _ _ _)).mono ?_
 intro y w10 hfd
 obtain ⟨hF,rfl,_,b10⟩ := hfd.yes (a5 _ _ _ _)
 have H10 := hid (H9.out.below b10)
 clear b10 hfd H9
 go_upto_region 8 with (refine wpList_store_row rfl 46 (.tmp 7) (.tmp 36) rfl w10.heap.size _ rfl rfl 46 Inf.zeros (World.alloc_heap_new w10 _) HKR.out (HKZ.out _ _) (HKO.out _ _) ?_)
 rw [World.setRow_alloc_new]
 obtain ⟨W10,hW10⟩ : ∃ W,W = w10.alloc (.cells ((fixI (L1 bE hE) (df ⟨#[68]⟩ tS (tC ⟨#[65]⟩))).vals hF).toArray 46) := ⟨_,rfl⟩
 have HX10 := hid (show IBox W10 w10.heap.size (fixI (L1 bE hE) (df ⟨#[68]⟩ tS (tC ⟨#[65]⟩))) hF from hW10 ▸ World.alloc_heap_new _ _)
 have H10b := hid (H10.out.below (show Below w10.heap.size w10 W10 from hW10 ▸ below_one _ _))
 obtain ⟨bX,hbX⟩ : ∃ b,b = w10.heap.size := ⟨_,rfl⟩
 have hs10 : bX < W10.heap.size := by rw [hbX,hW10,World.size_alloc]; omega
 rw [← hbX] at HX10
 rw [← hW10,← hbX]
 clear hW10 hbX H10
 go_wp2_with fail
 refine (CE_any _ _).mono ?_
 rintro y w11 ⟨rfl,b11⟩
 have H11 := hid (H10b.out.below b11)
 have HX11 := hid (HX10.out.keep b11)
 clear b11 H10b HX10
 go_wp2_with fail
 refine (type_any H11.out.env.env (tC ⟨#[65]⟩) zHd (C_firm (P := fun _ => False) ⟨#[65]⟩ (by decide)).here (by decide) (by decide)).mono ?_
 rintro y w12 hty
 rw [a7] at hty
 obtain ⟨hT,rfl,i12,b12⟩ := hty
 have H12 := hid (H11.out.below b12)
 have HX12 := hid (HX11.out.keep b12)
 have I12 := hid i12
 clear b12 i12 H11 HX11
 dsimp only
 have HKT : Hid ((Tryz.prog.info? 27).map (·.size) = some (tS.vals hT).size) := hid (by kernel_rfl)
 unfold Tm.val
 go_upto_region 9 with (refine wpList_store_row rfl 27 (.tmp 9) (.tmp 42) rfl w12.heap.size (tS.vals hT) rfl rfl 27 _ (World.alloc_heap_new w12 _) HKT.out rfl (by kernel_rfl) ?_)
 rw [World.setRow_alloc_new]
 obtain ⟨W,hW⟩ : ∃ W,W = w12.alloc (tS.box hT) := ⟨_,rfl⟩
 have HT12 := hid (show W.heap[w12.heap.size]? = some (tS.box hT) from hW ▸ World.alloc_heap_new _ _)
 have HBW := hid (show Below w12.heap.size w12 W from hW ▸ below_one _ _)
 obtain ⟨bT,hbT⟩ : ∃ b,b = w12.heap.size := ⟨_,rfl⟩
 have H13 := hid (H12.out.below HBW.out)
 have HX13 := hid (HX12.out.keep HBW.out)
 have I13 := hid (carry I12.out HBW.out)
 rw [← hbT] at HT12
 have hWe : w12.alloc (.cells (tS.vals hT) 27) = W := hW.symm
 rw [hWe,← hbT]
 clear hW hWe hbT HBW H12 HX12 I12 HKT
 have HCELL := hid (fun (V : World) (hV : Below W.heap.size W V) => (⟨by rw [← a6 bE hE]; exact (HX13.out.keep hV).cell 13,by obtain ⟨q0,q1,q2,q3,q4⟩ := Tm.cells (Lvl.keep hV HT12.out); exact ⟨q0,q1,q2,q3,q4⟩⟩ : V.cell? ⟨bX,13,none⟩ = some (.int .i64 1) ∧ (V.cell? ⟨bT,0,none⟩ = some (.int .u8 tS.k) ∧ V.cell? ⟨bT,1,none⟩ = some (.int .i64 tS.n) ∧ V.cell? ⟨bT,2,none⟩ = some (.string tS.s) ∧ V.cell? ⟨bT,3,none⟩ = some (.slice hT.lo tS.ls.length hT.lc) ∧ V.cell? ⟨bT,4,none⟩ = some (.slice hT.to tS.ts.length hT.tc))))
 have HB0 : Hid (Below W.heap.size W W.drew) := hid (Below.refl _ _).drew
 refine wp_region_held_drew (S := fun w' => w'.cell? ⟨bX,13,none⟩ = some (.int .i64 1) ∧ (w'.cell? ⟨bT,0,none⟩ = some (.int .u8 tS.k) ∧ w'.cell? ⟨bT,1,none⟩ = some (.int .i64 tS.n) ∧ w'.cell? ⟨bT,2,none⟩ = some (.string tS.s) ∧ w'.cell? ⟨bT,3,none⟩ = some (.slice hT.lo tS.ls.length hT.lc) ∧ w'.cell? ⟨bT,4,none⟩ = some (.slice hT.to tS.ts.length hT.tc))) (by kernel_rfl) (HCELL.out _ HB0.out) (fun hHeld => ?_)
 refine wpAnyH_take (i := 0) (v := ?vwk0) rfl (by kernel_rfl) (by kernel_rfl) (by kernel_rfl) (fun _ _ _ h => h) (Or.inl ⟨by rfl,?hywk0⟩) (by assumption) ?restwk0
 case hywk0 => (intro w hSw; (try dsimp only at hSw); go_simp <;> with_reducible rfl)
 try simp only [zqT,zqZ,Act.put,zqB,zq0,zq1]
 refine wpAnyH_take (i := 1) (v := ?vwk1) rfl (by kernel_rfl) (by kernel_rfl) (by kernel_rfl) (fun _ _ _ h => h) (Or.inl ⟨by rfl,?hywk1⟩) (by assumption) ?restwk1
 case hywk1 => (intro w hSw; (try dsimp only at hSw); go_simp <;> with_reducible rfl)
 try simp only [zqT,zqS,zqZ,Act.put,zqB,zq0,zq1]
 refine wpAnyH_take (i := 2) (v := ?vwk2) rfl (by kernel_rfl) (by kernel_rfl) (by kernel_rfl) (fun _ _ _ h => h) (Or.inl ⟨by rfl,?hywk2⟩) (by assumption) ?restwk2
 case hywk2 => (intro w hSw; (try dsimp only at hSw); go_simp <;> with_reducible rfl)
 try simp only [zqT,zqS,zqZ,Act.put,zqB,zq0,zq1]
 refine wpAnyH_take (i := 3) (v := ?vwk3) rfl (by kernel_rfl) (by kernel_rfl) (by kernel_rfl) (fun _ _ _ h => h) (Or.inl ⟨by rfl,?hywk3⟩) (by assumption) ?restwk3
 case hywk3 => (intro w hSw; (try dsimp only at hSw); go_simp <;> with_reducible rfl)
 try simp only [zqT,zqS,zqZ,Act.put,zqB,zq0,zq1]
 refine wpAnyH_take (i := 4) (v := ?vwk4) rfl (by kernel_rfl) (by kernel_rfl) (by kernel_rfl) (fun _ _ _ h => h) (Or.inl ⟨by rfl,?hywk4⟩) (by assumption) ?restwk4
 case hywk4 => (intro w hSw; (try dsimp only at hSw); go_simp <;> with_reducible rfl)
 try simp only [zqT,zqS,zqZ,Act.put,zqB,zq0,zq1]
 refine wpAnyH_take (i := 5) (v := ?vwk5) rfl (by kernel_rfl) (by kernel_rfl) (by kernel_rfl) (fun _ _ _ h => h) (Or.inl ⟨by rfl,?hywk5⟩) (by assumption) ?restwk5
 case hywk5 => (intro w hSw; (try dsimp only at hSw); go_simp <;> with_reducible rfl)
 try simp only [zqT,zqS,zqZ,Act.put,zqB,zq0,zq1]
 refine wpAnyH_take (i := 6) (v := ?vwk6) rfl (by kernel_rfl) (by kernel_rfl) (by kernel_rfl) (fun _ _ _ h => h) (Or.inl ⟨by rfl,?hywk6⟩) (by assumption) ?restwk6
 case hywk6 => (intro w hSw; (try dsimp only at hSw); go_simp <;> with_reducible rfl)
 try simp only [zqT,zqS,zqZ,Act.put,zqB,zq0,zq1]
 refine wpAnyH_take (i := 7) (v := ?vwk7) rfl (by kernel_rfl) (by kernel_rfl) (by kernel_rfl) (fun _ _ _ h => h) (Or.inl ⟨by rfl,?hywk7⟩) (by assumption) ?restwk7
 case hywk7 => (intro w hSw; (try dsimp only at hSw); go_simp <;> with_reducible rfl)
 try simp only [zqT,zqS,zqZ,Act.put,zqB,zq0,zq1]
 refine wpAnyH_take (i := 8) (v := ?vwk8) rfl (by kernel_rfl) (by kernel_rfl) (by kernel_rfl) (fun _ _ _ h => h) (Or.inl ⟨by rfl,?hywk8⟩) (by assumption) ?restwk8
 case hywk8 => (intro w hSw; (try dsimp only at hSw); go_simp <;> with_reducible rfl)
 try simp only [zqT,zqS,zqZ,Act.put,zqB,zq0,zq1]
 refine wpAnyH_take (i := 9) (v := ?vwk9) rfl (by kernel_rfl) (by kernel_rfl) (by kernel_rfl) (fun _ _ _ h => h) (Or.inl ⟨by rfl,?hywk9⟩) (by assumption) ?restwk9
 case hywk9 => (intro w hSw; (try dsimp only at hSw); go_simp <;> with_reducible rfl)
 try simp only [zqT,zqS,zqZ,Act.put,zqB,zq0,zq1]
 refine wpAnyH_take (i := 10) (v := ?vwk10) rfl (by kernel_rfl) (by kernel_rfl) (by kernel_rfl) (fun _ _ _ h => h) (Or.inl ⟨by rfl,?hywk10⟩) (by assumption) ?restwk10
 case hywk10 => (intro w hSw; (try dsimp only at hSw); go_simp <;> with_reducible rfl)
 try simp only [zqT,zqS,zqZ,Act.put,zqB,zq0,zq1]
 refine wpAnyH_take (i := 11) (v := ?vwk11) rfl (by kernel_rfl) (by kernel_rfl) (by kernel_rfl) (fun _ _ _ h => h) (Or.inl ⟨by rfl,?hywk11⟩) (by assumption) ?restwk11
 case hywk11 => (intro w hSw; (try dsimp only at hSw); go_simp <;> with_reducible rfl)
 try simp only [zqT,zqS,zqZ,Act.put,zqB,zq0,zq1]
 refine wpAnyH_take (i := 12) (v := ?vwk12) rfl (by kernel_rfl) (by kernel_rfl) (by kernel_rfl) (fun _ _ _ h => h) (Or.inl ⟨by rfl,?hywk12⟩) (by assumption) ?restwk12
 case hywk12 => (intro w hSw; (try dsimp only at hSw); go_simp <;> with_reducible rfl)
 try simp only [zqT,zqS,zqZ,Act.put,zqB,zq0,zq1]
 refine wpAnyH_take (i := 13) (v := ?vwk13) rfl (by kernel_rfl) (by kernel_rfl) (by kernel_rfl) (fun _ _ _ h => h) (Or.inl ⟨by rfl,?hywk13⟩) (by assumption) ?restwk13
 case hywk13 => (intro w hSw; (try dsimp only at hSw); go_simp <;> with_reducible rfl)
 try simp only [zqT,zqS,zqZ,Act.put,zqB,zq0,zq1]
 refine wpAnyH_take (i := 14) (v := ?vwk14) rfl (by kernel_rfl) (by kernel_rfl) (by kernel_rfl) (fun _ _ _ h => h) (Or.inl ⟨by rfl,?hywk14⟩) (by assumption) ?restwk14
 case hywk14 => (intro w hSw; (try dsimp only at hSw); go_simp <;> with_reducible rfl)
 try simp only [zqT,zqS,zqZ,Act.put,zqB,zq0,zq1]
 refine wpAnyH_take (i := 15) (v := ?vwk15) rfl (by kernel_rfl) (by kernel_rfl) (by kernel_rfl) (fun _ _ _ h => h) (Or.inl ⟨by rfl,?hywk15⟩) (by assumption) ?restwk15
 case hywk15 => (intro w hSw; (try dsimp only at hSw); go_simp <;> with_reducible rfl)
 try simp only [zqT,zqS,zqZ,Act.put,zqB,zq0,zq1]
 refine wpAnyH_take (i := 16) (v := ?vwk16) rfl (by kernel_rfl) (by kernel_rfl) (by kernel_rfl) (fun _ _ _ h => h) (Or.inl ⟨by rfl,?hywk16⟩) (by assumption) ?restwk16
 case hywk16 => (intro w hSw; (try dsimp only at hSw); go_simp <;> with_reducible rfl)
 try simp only [zqT,zqS,zqZ,Act.put,zqB,zq0,zq1]
 refine wpAnyH_take (i := 17) (v := ?vwk17) rfl (by kernel_rfl) (by kernel_rfl) (by kernel_rfl) (fun _ _ _ h => h) (Or.inl ⟨by rfl,?hywk17⟩) (by assumption) ?restwk17
 case hywk17 => (intro w hSw; (try dsimp only at hSw); go_simp <;> with_reducible rfl)
 try simp only [zqT,zqS,zqZ,Act.put,zqB,zq0,zq1]
 refine wpAnyH_take (i := 18) (v := ?vwk18) rfl (by kernel_rfl) (by kernel_rfl) (by kernel_rfl) (fun _ _ _ h => h) (Or.inl ⟨by rfl,?hywk18⟩) (by assumption) ?restwk18
 case hywk18 => (intro w hSw; (try dsimp only at hSw); go_simp <;> with_reducible rfl)
 try simp only [zqT,zqS,zqZ,Act.put,zqB,zq0,zq1]
 refine wpAnyH_take (i := 19) (v := ?vwk19) rfl (by kernel_rfl) (by kernel_rfl) (by kernel_rfl) (fun _ _ _ h => h) (Or.inl ⟨by rfl,?hywk19⟩) (by assumption) ?restwk19
 case hywk19 => (intro w hSw; (try dsimp only at hSw); go_simp <;> with_reducible rfl)
 try simp only [zqT,zqS,zqZ,Act.put,zqB,zq0,zq1]
 refine wpAnyH_take (i := 20) (v := ?vwk20) rfl (by kernel_rfl) (by kernel_rfl) (by kernel_rfl) (fun _ _ _ h => h) (Or.inl ⟨by rfl,?hywk20⟩) (by assumption) ?restwk20
 case hywk20 => (intro w hSw; (try dsimp only at hSw); go_simp <;> with_reducible rfl)
 try simp only [zqT,zqS,zqZ,Act.put,zqB,zq0,zq1]
 refine wpAnyH_take (i := 21) (v := ?vwk21) rfl (by kernel_rfl) (by kernel_rfl) (by kernel_rfl) (fun _ _ _ h => h) (Or.inl ⟨by rfl,?hywk21⟩) (by assumption) ?restwk21
 case hywk21 => (intro w hSw; (try dsimp only at hSw); go_simp <;> with_reducible rfl)
 try simp only [zqT,zqS,zqZ,Act.put,zqB,zq0,zq1]
 refine wpAnyH_take (i := 22) (v := ?vwk22) rfl (by kernel_rfl) (by kernel_rfl) (by kernel_rfl) (fun _ _ _ h => h) (Or.inl ⟨by rfl,?hywk22⟩) (by assumption) ?restwk22
 case hywk22 => (intro w hSw; (try dsimp only at hSw); go_simp <;> with_reducible rfl)
 try simp only [zqT,zqS,zqZ,Act.put,zqB,zq0,zq1]
 refine wpAnyH_take (i := 23) (v := ?vwk23) rfl (by kernel_rfl) (by kernel_rfl) (by kernel_rfl) (fun _ _ _ h => h) (Or.inl ⟨by rfl,?hywk23⟩) (by assumption) ?restwk23
 case hywk23 => (intro w hSw; (try dsimp only at hSw); go_simp <;> with_reducible rfl)
 try simp only [zqT,zqS,zqZ,Act.put,zqB,zq0,zq1]
 refine wpAnyH_take (i := 24) (v := ?vwk24) rfl (by kernel_rfl) (by kernel_rfl) (by kernel_rfl) (fun _ _ _ h => h) (Or.inl ⟨by rfl,?hywk24⟩) (by assumption) ?restwk24
 case hywk24 => (intro w hSw; (try dsimp only at hSw); go_simp <;> with_reducible rfl)
 try simp only [zqT,zqS,zqZ,Act.put,zqB,zq0,zq1]
 refine wpAnyH_take (i := 25) (v := ?vwk25) rfl (by kernel_rfl) (by kernel_rfl) (by kernel_rfl) (fun _ _ _ h => h) (Or.inl ⟨by rfl,?hywk25⟩) (by assumption) ?restwk25
 case hywk25 => (intro w hSw; (try dsimp only at hSw); go_simp <;> with_reducible rfl)
 try simp only [zqT,zqS,zqZ,Act.put,zqB,zq0,zq1]
 refine wpAnyH_take (i := 26) (v := ?vwk26) rfl (by kernel_rfl) (by kernel_rfl) (by kernel_rfl) (fun _ _ _ h => h) (Or.inl ⟨by rfl,?hywk26⟩) (by assumption) ?restwk26
 case hywk26 => (intro w hSw; (try dsimp only at hSw); go_simp <;> with_reducible rfl)
 try simp only [zqT,zqS,zqZ,Act.put,zqB,zq0,zq1]
 refine wpAnyH_take (i := 27) (v := ?vwk27) rfl (by kernel_rfl) (by kernel_rfl) (by kernel_rfl) (fun _ _ _ h => h) (Or.inl ⟨by rfl,?hywk27⟩) (by assumption) ?restwk27
 case hywk27 => (intro w hSw; (try dsimp only at hSw); go_simp <;> with_reducible rfl)
 try simp only [zqT,zqS,zqZ,Act.put,zqB,zq0,zq1]
 refine wpAnyH_ready (rs := [28]) (by kernel_rfl) (by simp) ?_
 refine AllReadyH.cons rfl (fun K hK => ?_) AllReadyH.nil
 go_simp
 refine (SE_any _).mono ?_
 rintro y v1 ⟨g1,rfl,c1,f1⟩
 have HB1 := hid (Trm.go HB0.out c1)
 have J1 := hid ((f1 (fun _ => False) (fun _ a => a.elim)).here)
 clear f1
 unfold Tm.val Tm.vals
 clear c1
 refine hK.out _ _ (HCELL.out v1 HB1.out) (fun hHeld => ?_)
 clear hK K
 try simp only [zqT,zqS,zqZ,Act.put,zqB,zq0,zq1]
 refine wpAnyH_ready (rs := [29]) (by kernel_rfl) (by simp) ?_
 refine AllReadyH.cons rfl (fun K hK => ?_) AllReadyH.nil
 go_simp
 refine ((show Calls Tryz.prog 29 #[tS.val hT,tS.val g1] v1 (fun e w' => e = .returned (.bool true) ∧ Below v1.heap.size v1 w') from (same_iff.2 rfl : same tS tS = true) ▸ RefSame_any tS tS hT g1 v1 (carry I13.out HB1.out) J1.out)).mono ?_
 rintro y v2 ⟨rfl,c2⟩
 have HB2 := hid (Trm.go HB1.out c2)
 clear c2
 refine hK.out _ _ (HCELL.out v2 HB2.out) (fun hHeld => ?_)
 clear hK K
 try simp only [zqT,zqS,zqZ,Act.put,zqB,zq0,zq1]
 refine wpAnyH_take (i := 30) (v := ?vwk30) rfl (by kernel_rfl) (by kernel_rfl) (by kernel_rfl) (fun _ _ _ h => h) (Or.inl ⟨by rfl,?hywk30⟩) (by assumption) ?restwk30
 case hywk30 => (intro w hSw; (try dsimp only at hSw); go_simp <;> with_reducible rfl)
 try simp only [zqT,zqS,zqZ,Act.put,zqB,zq0,zq1]
 refine wpAnyH_take (i := 31) (v := ?vwk31) rfl (by kernel_rfl) (by kernel_rfl) (by kernel_rfl) (fun _ _ _ h => h) (Or.inl ⟨by rfl,?hywk31⟩) (by assumption) ?restwk31
 case hywk31 => (intro w hSw; (try dsimp only at hSw); go_simp <;> with_reducible rfl)
 try simp only [zqT,zqS,zqZ,Act.put,zqB,zq0,zq1]
 refine wpAnyH_take (i := 32) (v := ?vwk32) rfl (by kernel_rfl) (by kernel_rfl) (by kernel_rfl) (fun _ _ _ h => h) (Or.inl ⟨by rfl,?hywk32⟩) (by assumption) ?restwk32
 case hywk32 => (intro w hSw; (try dsimp only at hSw); go_simp <;> with_reducible rfl)
 try simp only [zqT,zqS,zqZ,Act.put,zqB,zq0,zq1]
 refine wpAnyH_ready (rs := [33]) (by kernel_rfl) (by simp) ?_
 refine AllReadyH.cons rfl (fun K hK => ?_) AllReadyH.nil
 go_simp
 refine (list_any (H13.out.below HB2.out).env.env).mono ?_
 rintro y v3 ⟨vl,rfl,hl,c3⟩
 have HB3 := hid (Trm.go HB2.out c3)
 obtain ⟨al,cl,hvl⟩ := row_slice hl
 subst hvl
 clear hl
 clear c3
 refine hK.out _ _ (HCELL.out v3 HB3.out) (fun hHeld => ?_)
 clear hK K
 try simp only [zqT,zqS,zqZ,Act.put,zqB,zq0,zq1]
 refine wpAnyH_take (i := 34) (v := ?vwk34) rfl (by kernel_rfl) (by kernel_rfl) (by kernel_rfl) (fun _ _ _ h => h) (Or.inl ⟨by rfl,?hywk34⟩) (by assumption) ?restwk34
 case hywk34 => (intro w hSw; (try dsimp only at hSw); go_simp <;> with_reducible rfl)
 try simp only [zqT,zqS,zqZ,Act.put,zqB,zq0,zq1]
 refine wpAnyH_take (i := 35) (v := ?vwk35) rfl (by kernel_rfl) (by kernel_rfl) (by kernel_rfl) (fun _ _ _ h => h) (Or.inl ⟨by rfl,?hywk35⟩) (by assumption) ?restwk35
 case hywk35 => (intro w hSw; (try dsimp only at hSw); go_simp <;> with_reducible rfl)
 try simp only [zqT,zqS,zqZ,Act.put,zqB,zq0,zq1]
 refine wpAnyH_take (i := 36) (v := ?vwk36) rfl (by kernel_rfl) (by kernel_rfl) (by kernel_rfl) (fun _ _ _ h => h) (Or.inl ⟨by rfl,?hywk36⟩) (by assumption) ?restwk36
 case hywk36 => (intro w hSw; (try dsimp only at hSw); go_simp <;> with_reducible rfl)
 try simp only [zqT,zqS,zqZ,Act.put,zqB,zq0,zq1]
 refine wpAnyH_take (i := 37) (v := ?vwk37) rfl (by kernel_rfl) (by kernel_rfl) (by kernel_rfl) (fun _ _ _ h => h) (Or.inl ⟨by rfl,?hywk37⟩) (by assumption) ?restwk37
 case hywk37 => (intro w hSw; (try dsimp only at hSw); go_simp <;> with_reducible rfl)
 try simp only [zqT,zqS,zqZ,Act.put,zqB,zq0,zq1]
 refine wpAnyH_take (i := 38) (v := ?vwk38) rfl (by kernel_rfl) (by kernel_rfl) (by kernel_rfl) (fun _ _ _ h => h) (Or.inl ⟨by rfl,?hywk38⟩) (by assumption) ?restwk38
 case hywk38 => (intro w hSw; (try dsimp only at hSw); go_simp <;> with_reducible rfl)
 try simp only [zqT,zqS,zqZ,Act.put,zqB,zq0,zq1]
 refine wpAnyH_ready (rs := [39]) (by kernel_rfl) (by simp) ?_
 refine AllReadyH.cons rfl (fun K hK => ?_) AllReadyH.nil
 go_simp
 refine (CE_any _ _).mono ?_
 rintro y v4 ⟨rfl,c4⟩
 have HB4 := hid (Trm.go HB3.out c4)
 unfold Tm.val Tm.vals zHd
 clear c4
 refine hK.out _ _ (HCELL.out v4 HB4.out) (fun hHeld => ?_)
 clear hK K
 refine wpAnyH_ready (rs := [40]) (by kernel_rfl) (by simp) ?_
 refine AllReadyH.cons rfl (fun K hK => ?_) AllReadyH.nil
 go_simp
 refine ((show Calls Tryz.prog 31 #[.pointer (some ⟨e,0,none⟩),(tC ⟨#[68]⟩).val zHd] v4 (fun y w' => y = .returned (.int .i64 1) ∧ Below v4.heap.size v4 w') from a8 bE hE bD hD ▸ height_any (H13.out.below HB4.out).env.env (tC ⟨#[68]⟩) zHd (C_firm (P := fun _ => False) ⟨#[68]⟩ (by decide)).here (by kernel_rfl))).mono ?_
 rintro y v5 ⟨rfl,c5⟩
 have HB5 := hid (Trm.go HB4.out c5)
 clear c5
 refine hK.out _ _ (HCELL.out v5 HB5.out) (fun hHeld => ?_)
 clear hK K
 try simp only [zqT,zqS,zqZ,Act.put,zqB,zq0,zq1]
 refine wpAnyH_take (i := 41) (v := ?vwk41) rfl (by kernel_rfl) (by kernel_rfl) (by kernel_rfl) (fun _ _ _ h => h) (Or.inl ⟨by rfl,?hywk41⟩) (by assumption) ?restwk41
 case hywk41 => (intro w hSw; (try dsimp only at hSw); go_simp <;> with_reducible rfl)
 try simp only [zqT,zqS,zqZ,Act.put,zqB,zq0,zq1]
 refine wpAnyH_take (i := 42) (v := ?vwk42) rfl (by kernel_rfl) (by kernel_rfl) (by kernel_rfl) (fun _ _ _ h => h) (Or.inl ⟨by rfl,?hywk42⟩) (by assumption) ?restwk42
 case hywk42 => (intro w hSw; (try dsimp only at hSw); go_simp <;> with_reducible rfl)
 try simp only [zqT,zqS,zqZ,Act.put,zqB,zq0,zq1]
 refine wpAnyH_take (i := 43) (v := ?vwk43) rfl (by kernel_rfl) (by kernel_rfl) (by kernel_rfl) (fun _ _ _ h => h) (Or.inl ⟨by rfl,?hywk43⟩) (by assumption) ?restwk43
 case hywk43 => (intro w hSw; (try dsimp only at hSw); go_simp <;> with_reducible rfl)
 try simp only [zqT,zqS,zqZ,Act.put,zqB,zq0]
 refine wpAnyH_done (by kernel_rfl) ?_ _
 go_wp2_with fail
 go_ret
 exact ⟨rfl,Trm.go H13.out.bel HB5.out⟩
end Go.Proofs.YtiekbhlnnmnklaaGreat
