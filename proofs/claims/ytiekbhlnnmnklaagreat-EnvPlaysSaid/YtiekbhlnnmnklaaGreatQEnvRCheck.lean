/-
 battenref07.check: what is wrong with one of some infos.
-/
import Derived.Lib.Hide
import Derived.Test.YtiekbhlnnmnklaaGreatQB1
import Derived.Test.YtiekbhlnnmnklaaGreatQB8
import Derived.Test.YtiekbhlnnmnklaaGreatQB24
import Derived.Test.YtiekbhlnnmnklaaGreatQB18
import Derived.Test.YtiekbhlnnmnklaaGreatQB19
import Derived.Test.YtiekbhlnnmnklaaGreatQB9
import Derived.Test.YtiekbhlnnmnklaaGreatQB5
import Derived.Test.YtiekbhlnnmnklaaGreatQB29
open Go.Lib (hid)
set_option maxRecDepth 100000
set_option maxHeartbeats 32000000
namespace Go.Proofs.YtiekbhlnnmnklaaGreat
open Go.RowKit Go.Shelf Go.Maps Lvl Trm Env
namespace Env
theorem NmRow.below {w w' : World} {lo : Option Addr} {l : List Inf} (h : NmRow w lo l) (g : Below w.heap.size w w') : NmRow w' lo l := ⟨fun k hk => by
 obtain ⟨b,off,h1,h2⟩ := h.place k hk
 exact ⟨b,off,h1,(g.cell (p := ⟨b,_,none⟩) (World.block_lt_of_cell? w _ h2)).trans h2⟩⟩
structure RCtx (w : World) (r : Nat) (L : List Inf) : Prop where
 row : ∃ a c,w.cell? ⟨r,0,none⟩ = some (.slice a L.length c) ∧ InfRow w.heap.size w a L
 few : L.length ≤ 4096
theorem RCtx.below {w w' : World} {r : Nat} {L : List Inf} (h : RCtx w r L) (g : Below w.heap.size w w') : RCtx w' r L := by
 obtain ⟨a,c,h1,h2⟩ := h.row
 exact ⟨⟨a,c,(g.cell (p := ⟨r,0,none⟩) (World.block_lt_of_cell? w _ h1)).trans h1,h2.carry g⟩,h.few⟩
theorem RCtx.box {w : World} {r : Nat} {L : List Inf} (h : RCtx w r L) : ∃ a c,w.cell? ⟨r,0,none⟩ = some (.slice a L.length c) ∧ NmRow w a L := by
 obtain ⟨a,c,h1,h2⟩ := h.row
 exact ⟨a,c,h1,h2.nm⟩
theorem fz_look {L : List Inf} {M : List Ent} (e : infs M = L) (s : ByteArray) : 0 ≤ findZ L s ↔ (lookE M (key s)).isSome = true := by
 subst e
 rcases findZ_look M s with ⟨h1,h2⟩ | ⟨k,hk,h1,h2,h3⟩
 ·have h1' : findZ (infs M) s = -1 := h1
  rw [h1',h2]; simp
 ·have h1' : findZ (infs M) s = (k : Int) := h1
  rw [h1',h2]; simp
theorem fz_take {l : List Inf} {n : Nat} (hn : n ≤ l.length) (s : ByteArray) : 0 ≤ findZ (l.take n) s ↔ (names l).idxOf (key s) < n := by
 constructor
 ·intro h
  rcases findZ_cases (l.take n) s with ⟨h1,_⟩ | ⟨k,hk,h1,h2,_⟩
  ·omega
  ·have hk2 : k < n := by rw [List.length_take] at hk; omega
   rw [List.getElem_take] at h2
   refine Classical.byContradiction fun hc => ?_
   have hlt : k < (names l).findIdx (· == key s) := by
    have : (names l).idxOf (key s) = (names l).findIdx (· == key s) := rfl
    omega
   have h3 := List.not_of_lt_findIdx hlt
   have h4 : (names l)[k]'(by rw [names_len]; omega) = key l[k].name := by simp [names]
   rw [h4,h2] at h3
   simp at h3
 ·intro h
  have hlt : (names l).idxOf (key s) < (names l).length := by rw [names_len]; omega
  have h1 : (names l)[(names l).idxOf (key s)] = key s := by
   exact eq_of_beq (List.findIdx_getElem (xs := names l) (p := (· == key s)) (w := hlt))
  rcases findZ_cases (l.take n) s with ⟨_,h2⟩ | ⟨k,_,h2,_⟩
  ·have hj : (names l).idxOf (key s) < (l.take n).length := by rw [List.length_take]; omega
   have h3 := h2 _ hj
   rw [List.getElem_take] at h3
   have e : (names l)[(names l).idxOf (key s)] = key (l[(names l).idxOf (key s)]'(by omega)).name := List.getElem_map _
   exact absurd (key_eq (e.symm.trans h1)) h3
  ·omega
theorem known_fz {L l : List Inf} {M : List Ent} (e : infs M = L) {n : Nat} (hn : n ≤ l.length) (hv : Bool) (s : ByteArray) : known M (names l) n hv (key s) = (decide (0 ≤ findZ L s) || decide (0 ≤ findZ (if hv = true then l.take n else l) s)) := by
 have h1 := fz_look e s
 have h2 := fz_take hn s
 have h3 := fz_take (Nat.le_refl l.length) s
 rw [List.take_length] at h3
 have h4 : key s ∈ names l ↔ (names l).idxOf (key s) < l.length := by rw [← names_len l]; exact List.idxOf_lt_length_iff.symm
 unfold known
 rw [Bool.eq_iff_iff]
 cases hv
 ·simp only [Bool.not_false,Bool.or_true,Bool.and_true,Bool.or_eq_true,decide_eq_true_eq,Bool.false_eq_true,if_false]
  rw [h1,h3,h4]
 ·simp only [Bool.not_true,Bool.or_false,Bool.or_eq_true,Bool.and_eq_true,decide_eq_true_eq,if_true]
  rw [h1,h2,h4]
  constructor
  ·rintro (h | ⟨_,h⟩)
   ·exact Or.inl h
   ·exact Or.inr h
  ·rintro (h | h)
   ·exact Or.inl h
   ·exact Or.inr ⟨by omega,h⟩
theorem slice_front {lo : Option Addr} {n lc k : Nat} (h : k ≤ lc) (W : World) : (Instr.slice 22 (.slice lo n lc) none (some (.int .i64 (k : Int))) none).run Tryz.prog W = .ok (.slice lo k lc) W := by
 have h1 : (0 : Int) ≤ (k : Int) := by omega
 have h2 : ((k : Int) ≤ (lc : Int)) = True := eq_true (by omega)
 by_cases hz : lc = 0
 ·have hk : k = 0 := by omega
  subst hz hk
  cases lo <;> simp [go_sem,sliced]
 ·cases lo <;> simp [go_sem,sliced,h1,h2,hz,Addr.add]
def ChT (w : World) (n : Nat) (ts : List Tm) (i : Value) (wr : World) : Prop := ∃ k : Nat,i = .int .i64 k ∧ k ≤ ts.length ∧ (∀ j (h : j < ts.length),j < k → openB ts[j] n = 0) ∧ Below w.heap.size w wr
def ChN (w : World) (f : Tm → Int) (ts : List Tm) (i : Value) (wr : World) : Prop := ∃ k : Nat,i = .int .i64 k ∧ k ≤ ts.length ∧ (∀ j (h : j < ts.length),j < k → f ts[j] = 0) ∧ Below w.heap.size w wr
def ChS (w : World) (f : List UInt8 → Bool) (ns : List (List UInt8)) (i : Value) (wr : World) : Prop := ∃ k : Nat,i = .int .i64 k ∧ k ≤ ns.length ∧ (∀ j (h : j < ns.length),j < k → f ns[j] = true) ∧ Below w.heap.size w wr
theorem rs_few {t : Tm} (hm : t.may = true) : (addN t.nms []).length ≤ 65536 ∧ ∀ y,y ∈ addN t.nms [] ↔ y ∈ t.nms := by
 refine ⟨?_,fun y => by rw [addN_mem]; simp⟩
 have h1 := addN_len t.nms []
 have h2 := nms_few hm
 simp at h1
 omega
theorem nr_slice {w : World} {v : Value} {l : List (List UInt8)} (h : NR w v l) : ∃ a c,v = .slice a l.length c ∧ ∀ k (hk : k < l.length),∃ g,a = some ⟨g,0,none⟩ ∧ w.cell? ⟨g,k,none⟩ = some (.string ⟨l[k].toArray⟩) := by
 rcases h with ⟨rfl,rfl⟩ | ⟨g,cap,h1,h2,h3,h4,h5⟩
 ·exact ⟨none,0,rfl,fun k hk => by simp at hk⟩
 ·exact ⟨_,cap,h1,fun k hk => ⟨g,rfl,h5 k hk⟩⟩
theorem terms_few (x : Inf) : x.terms.length ≤ x.rules.length + 2 := by
 unfold Inf.terms
 rw [List.length_append,List.length_append,List.length_map]
 split <;> simp <;> omega
end Env
theorem check7_any {w : World} {r : Nat} {L l : List Inf} {M : List Ent} {lo : Option Addr} {lc n : Nat} (hM : infs M = L) (hc : RCtx w r L) (hrow : InfRow w.heap.size w lo l) (hlc : l.length ≤ lc) (hl : l.length ≤ 1000) (hn : n < l.length) (hr : l[n].rules.length ≤ 1000) :
 Calls Tryz.prog 59 #[.pointer (some ⟨r,0,none⟩),.slice lo l.length lc,.int .i64 n] w fun y w' => y = .returned (.int .i64 (wrongIB M (names l) n l[n])) ∧ Below w.heap.size w w' := by
 obtain ⟨b,off,hd,hlo,hb,hrg,hin⟩ := hrow.place n hn
 have HNR := hid hrow.nm
 have HFZ1 := hid (fun s => fz_look hM s)
 have HFZ2 := hid (fun s => fz_take (Nat.le_of_lt hn) s)
 have HKN := hid (fun hv s => known_fz (l := l) hM (Nat.le_of_lt hn) hv s)
 have HLEN : Hid (l.length ≤ 1000 ∧ l.length ≤ lc ∧ (l.take n).length = n) := hid ⟨hl,hlc,by rw [List.length_take]; omega⟩
 have HSL := hid (fun (W : World) => slice_front (lo := lo) (n := l.length) (lc := lc) (k := n) (by omega) W)
 have HRC := hid hc
 subst hlo
 obtain ⟨x,hx⟩ : ∃ x,x = l[n] := ⟨_,rfl⟩
 rw [← hx] at hrg hin hr ⊢
 have HIN := hid hin
 have HRU := hid hr
 obtain ⟨G,hG⟩ : ∃ G,G = wrongIB M (names l) n x := ⟨_,rfl⟩
 rw [← hG]
 have HG := hid hG
 have hr0 := hrg
 clear hrow hlc hl hr hrg hin hx hM hc hG
 have HKR : ∀ {x : Inf} {h : IHd},Hid ((Tryz.prog.info? 46).map (·.size) = some (x.vals h).toArray.size) := fun {x h} => hid infoInf
 have HKL : ∀ {x : Inf} {h : IHd},Hid ((Tryz.prog.info? 46).map (·.size) = some (x.vals h).length) := fun {x h} => hid infoInf
 have HKZ : Hid (∀ (x : Inf) (h : IHd),Inf.zeros.size = (x.vals h).toArray.size) := hid (fun _ _ => rfl)
 have HKO : Hid (∀ (x : Inf) (h : IHd),(x.vals h).toArray.all (·.oneCell') = true) := hid (fun x h => vals_one x h)
 have HKS : Hid (∀ (x : Inf) (h : IHd),∀ u ∈ x.vals h,u.oneCell' = true) := hid (fun x h u hu => by have := vals_one x h; rw [List.all_toArray,List.all_eq_true] at this; exact this u hu)
 go_enter Tryz.func59,Tryz.ntmps59
 go_upto_region 2 with (first
  | (refine wpList_load_mid rfl 46 (.tmp 16) rfl b (off + n * 25) rfl (x.vals hd) _ hr0 Tryz.underlying46 rfl HKL.out ?_)
  | (refine wpList_store_row rfl 46 (.tmp 7) (.tmp 17) rfl w.heap.size _ rfl rfl 46 Inf.zeros (World.alloc_heap_new _ _) HKR.out (HKZ.out _ _) (HKO.out _ _) ?_))
 rw [World.setRow_alloc_new]
 obtain ⟨W1,hW1⟩ : ∃ W,W = w.alloc (.cells (x.vals hd).toArray 46) := ⟨_,rfl⟩
 obtain ⟨bX,hbX⟩ : ∃ b,b = w.heap.size := ⟨_,rfl⟩
 have B1 := hid (show Below w.heap.size w W1 from hW1 ▸ below_one _ _)
 have HX := hid (show IBox W1 bX x hd from by rw [hW1,hbX]; exact World.alloc_heap_new _ _)
 have HI1 := hid (show x.In W1.heap.size W1 hd from Inf.carry HIN.out B1.out)
 rw [← hW1,← hbX]
 clear hW1 hbX hr0 hb
 obtain ⟨aL,cL,hcL,hnL⟩ := (HRC.out.below B1.out).box
 have HCL := hid (show W1.cell? ⟨r,0,none⟩ = some (.slice aL L.length cL) from hcL)
 have HNL := hid hnL
 have HLF := hid HRC.out.few
 have HRL : Hid (r < W1.heap.size) := hid (World.block_lt_of_cell? W1 _ hcL)
 clear hcL hnL
 have HNS : Hid (x.name.size ≤ 9223372036854775807) := hid HIN.out.fit.name
 obtain ⟨s,hs⟩ : ∃ s,s = x.name := ⟨_,rfl⟩
 have HS := hid hs
 have HC1 := hid (show W1.cell? ⟨bX,1,none⟩ = some (.string s) from by rw [hs]; exact HX.out.cell 1)
 have HBX : Hid (bX < W1.heap.size) := hid HX.out.lt
 have HNM := hid (fun (W : World) => RefName_any s W (by rw [hs]; exact HNS.out))
 have HF1 := hid (fun (W : World) (hW : Below W1.heap.size W1 W) => find7_any L aL cL s W (HNL.out.below hW) (by have := HLF.out; omega))
 have HF2 := hid (fun (W : World) (hW : Below W1.heap.size W1 W) => (show Calls Tryz.prog 69 #[.slice (some ⟨b,off,none⟩) n lc,.string s] W (fun e w' => e = .returned (.int .i64 (findZ (l.take n) s)) ∧ W = w') from by have h0 := find7_any (l.take n) (some ⟨b,off,none⟩) lc s W ((HNR.out.below (Trm.go B1.out hW)).take n) (by have := HLEN.out; omega); rw [HLEN.out.2.2] at h0; exact h0))
 have HG5 : Hid (nameOk s = false ∨ 0 ≤ findZ L s ∨ 0 ≤ findZ (l.take n) s → 5 = G) := hid (fun h => by
  rw [HG.out]
  unfold wrongIB
  rw [← hs]
  rcases h with h | h | h
  ·rw [if_pos h]
  ·by_cases h0 : nameOk s = false
   ·rw [if_pos h0]
   ·rw [if_neg h0,if_pos ((HFZ1.out s).1 h)]
  ·by_cases h0 : nameOk s = false
   ·rw [if_pos h0]
   ·by_cases h1 : (lookE M (key s)).isSome = true
    ·rw [if_neg h0,if_pos h1]
    ·rw [if_neg h0,if_neg h1,if_pos ((HFZ2.out s).1 h)])
 have HG6 : Hid (nameOk s = true → ¬ 0 ≤ findZ L s → ¬ 0 ≤ findZ (l.take n) s → G = if x.isKind = false then 1 else if x.nums = false then 1 else if x.params < 0 then 8 else if 4 < x.params then 8 else wrongTB M (names l) n x.params.toNat x) := hid (fun h0 h1 h2 => by
  rw [HG.out]
  unfold wrongIB
  rw [← hs,if_neg (by rw [h0]; simp),if_neg (fun h => h1 ((HFZ1.out s).2 h)),if_neg (fun h => h2 ((HFZ2.out s).2 h))])
 obtain ⟨f1,hf1⟩ : ∃ f,f = findZ L s := ⟨_,rfl⟩
 obtain ⟨f2,hf2⟩ : ∃ f,f = findZ (l.take n) s := ⟨_,rfl⟩
 obtain ⟨nk,hnk⟩ : ∃ q,q = nameOk s := ⟨_,rfl⟩
 rw [← hf1] at HF1 HG5 HG6
 rw [← hf2] at HF2 HG5 HG6
 rw [← hnk] at HNM HG5 HG6
 clear hf1 hf2 hnk hs
 have HB0 : Hid (Below W1.heap.size W1 W1.drew) := hid (Below.refl _ _).drew
 have hsl := HSL.out
 go_wp2_with fail
 cases nk
 ·have HE := hid (HG5.out (Or.inl rfl))
  refine wp_region_held_drew (S := fun w' => w'.cell? ⟨bX,1,none⟩ = some (.string s) ∧ w'.cell? ⟨r,0,none⟩ = some (.slice aL L.length cL)) (by kernel_rfl) (⟨(HB0.out.cell (p := ⟨bX,1,none⟩) HBX.out).trans HC1.out,(HB0.out.cell (p := ⟨r,0,none⟩) HRL.out).trans HCL.out⟩) (fun hHeld => ?_)
  refine wpAnyH_take (i := 0) (v := ?vra0) rfl (by kernel_rfl) (by kernel_rfl) (by kernel_rfl) (fun _ _ _ h => h) (Or.inl ⟨by rfl,?hyra0⟩) (by assumption) ?restra0
  case hyra0 => (intro w hSw; (try dsimp only at hSw); go_simp <;> with_reducible rfl)
  try simp only [zqT,zqZ,Act.put,zqB,zq0,zq1]
  refine wpAnyH_take (i := 1) (v := ?vra1) rfl (by kernel_rfl) (by kernel_rfl) (by kernel_rfl) (fun _ _ _ h => h) (Or.inl ⟨by rfl,?hyra1⟩) (by assumption) ?restra1
  case hyra1 => (intro w hSw; (try dsimp only at hSw); go_simp <;> with_reducible rfl)
  try simp only [zqT,zqS,zqZ,Act.put,zqB,zq0,zq1]
  refine wpAnyH_ready (rs := [2]) (by kernel_rfl) (by simp) ?_
  refine AllReadyH.cons rfl (fun K hK => ?_) AllReadyH.nil
  go_simp
  refine (HNM.out _).mono ?_
  rintro y v3 ⟨rfl,rfl⟩
  refine hK.out _ _ (⟨(HB0.out.cell (p := ⟨bX,1,none⟩) HBX.out).trans HC1.out,(HB0.out.cell (p := ⟨r,0,none⟩) HRL.out).trans HCL.out⟩) (fun hHeld => ?_)
  clear hK K
  try simp only [zqT,zqS,zqZ,Act.put,zqB,zq0,zq1]
  refine wpAnyH_take (i := 3) (v := ?vra3) rfl (by kernel_rfl) (by kernel_rfl) (by kernel_rfl) (fun _ _ _ h => h) (Or.inl ⟨by rfl,?hyra3⟩) (by assumption) ?restra3
  case hyra3 => (intro w hSw; (try dsimp only at hSw); go_simp <;> with_reducible rfl)
  try simp only [zqT,zqS,zqZ,Act.put,zqB,zq0,zq1]
  refine wpAnyH_take (i := 4) (v := ?vra4) rfl (by kernel_rfl) (by kernel_rfl) (by kernel_rfl) (fun _ _ _ h => h) (Or.inl ⟨by rfl,?hyra4⟩) (by assumption) ?restra4
  case hyra4 => (intro w hSw; (try dsimp only at hSw); go_simp <;> with_reducible rfl)
  try simp only [zqT,zqS,zqZ,Act.put,zqB,zq0,zq1]
  refine wpAnyH_take (i := 5) (v := undef) rfl (by kernel_rfl) (by kernel_rfl) (by kernel_rfl) (fun _ _ _ h => h) (Or.inr ⟨by rfl,rfl⟩) (by assumption) ?_
  try simp only [zqT,zqS,zqZ,Act.put,zqB,zq0,zq1]
  refine wpAnyH_take (i := 6) (v := undef) rfl (by kernel_rfl) (by kernel_rfl) (by kernel_rfl) (fun _ _ _ h => h) (Or.inr ⟨by rfl,rfl⟩) (by assumption) ?_
  try simp only [zqT,zqS,zqZ,Act.put,zqB,zq0,zq1]
  refine wpAnyH_take (i := 7) (v := undef) rfl (by kernel_rfl) (by kernel_rfl) (by kernel_rfl) (fun _ _ _ h => h) (Or.inr ⟨by rfl,rfl⟩) (by assumption) ?_
  try simp only [zqT,zqS,zqZ,Act.put,zqB,zq0,zq1]
  refine wpAnyH_take (i := 8) (v := undef) rfl (by kernel_rfl) (by kernel_rfl) (by kernel_rfl) (fun _ _ _ h => h) (Or.inr ⟨by rfl,rfl⟩) (by assumption) ?_
  try simp only [zqT,zqS,zqZ,Act.put,zqB,zq0,zq1]
  refine wpAnyH_take (i := 9) (v := undef) rfl (by kernel_rfl) (by kernel_rfl) (by kernel_rfl) (fun _ _ _ h => h) (Or.inr ⟨by rfl,rfl⟩) (by assumption) ?_
  try simp only [zqT,zqS,zqZ,Act.put,zqB,zq0,zq1]
  refine wpAnyH_take (i := 10) (v := undef) rfl (by kernel_rfl) (by kernel_rfl) (by kernel_rfl) (fun _ _ _ h => h) (Or.inr ⟨by rfl,rfl⟩) (by assumption) ?_
  try simp only [zqT,zqS,zqZ,Act.put,zqB,zq0,zq1]
  refine wpAnyH_take (i := 11) (v := undef) rfl (by kernel_rfl) (by kernel_rfl) (by kernel_rfl) (fun _ _ _ h => h) (Or.inr ⟨by rfl,rfl⟩) (by assumption) ?_
  try simp only [zqT,zqS,zqZ,Act.put,zqB,zq0,zq1]
  refine wpAnyH_take (i := 12) (v := undef) rfl (by kernel_rfl) (by kernel_rfl) (by kernel_rfl) (fun _ _ _ h => h) (Or.inr ⟨by rfl,rfl⟩) (by assumption) ?_
  try simp only [zqT,zqS,zqZ,Act.put,zqB,zq0,zq1]
  refine wpAnyH_take (i := 13) (v := ?vra13) rfl (by kernel_rfl) (by kernel_rfl) (by kernel_rfl) (fun _ _ _ h => h) (Or.inl ⟨by rfl,?hyra13⟩) (by assumption) ?restra13
  case hyra13 => (intro w hSw; (try dsimp only at hSw); go_simp <;> with_reducible rfl)
  try simp only [zqT,zqS,zqZ,Act.put,zqB,zq0,zq1]
  refine wpAnyH_take (i := 14) (v := ?vra14) rfl (by kernel_rfl) (by kernel_rfl) (by kernel_rfl) (fun _ _ _ h => h) (Or.inl ⟨by rfl,?hyra14⟩) (by assumption) ?restra14
  case hyra14 => (intro w hSw; (try dsimp only at hSw); go_simp <;> with_reducible rfl)
  try simp only [zqT,zqS,zqZ,Act.put,zqB,zq0,zq1]
  refine wpAnyH_take (i := 15) (v := undef) rfl (by kernel_rfl) (by kernel_rfl) (by kernel_rfl) (fun _ _ _ h => h) (Or.inr ⟨by rfl,rfl⟩) (by assumption) ?_
  try simp only [zqT,zqS,zqZ,Act.put,zqB,zq0,zq1]
  refine wpAnyH_take (i := 16) (v := undef) rfl (by kernel_rfl) (by kernel_rfl) (by kernel_rfl) (fun _ _ _ h => h) (Or.inr ⟨by rfl,rfl⟩) (by assumption) ?_
  try simp only [zqT,zqS,zqZ,Act.put,zqB,zq0,zq1]
  refine wpAnyH_take (i := 17) (v := undef) rfl (by kernel_rfl) (by kernel_rfl) (by kernel_rfl) (fun _ _ _ h => h) (Or.inr ⟨by rfl,rfl⟩) (by assumption) ?_
  try simp only [zqT,zqS,zqZ,Act.put,zqB,zq0,zq1]
  refine wpAnyH_take (i := 18) (v := undef) rfl (by kernel_rfl) (by kernel_rfl) (by kernel_rfl) (fun _ _ _ h => h) (Or.inr ⟨by rfl,rfl⟩) (by assumption) ?_
  try simp only [zqT,zqS,zqZ,Act.put,zqB,zq0,zq1]
  refine wpAnyH_take (i := 19) (v := undef) rfl (by kernel_rfl) (by kernel_rfl) (by kernel_rfl) (fun _ _ _ h => h) (Or.inr ⟨by rfl,rfl⟩) (by assumption) ?_
  try simp only [zqT,zqS,zqZ,Act.put,zqB,zq0,zq1]
  refine wpAnyH_take (i := 20) (v := undef) rfl (by kernel_rfl) (by kernel_rfl) (by kernel_rfl) (fun _ _ _ h => h) (Or.inr ⟨by rfl,rfl⟩) (by assumption) ?_
  try simp only [zqT,zqS,zqZ,Act.put,zqB,zq0,zq1]
  refine wpAnyH_take (i := 21) (v := undef) rfl (by kernel_rfl) (by kernel_rfl) (by kernel_rfl) (fun _ _ _ h => h) (Or.inr ⟨by rfl,rfl⟩) (by assumption) ?_
  try simp only [zqT,zqS,zqZ,Act.put,zqB,zq0,zq1]
  refine wpAnyH_take (i := 22) (v := ?vra22) rfl (by kernel_rfl) (by kernel_rfl) (by kernel_rfl) (fun _ _ _ h => h) (Or.inl ⟨by rfl,?hyra22⟩) (by assumption) ?restra22
  case hyra22 => (intro w hSw; (try dsimp only at hSw); go_simp <;> with_reducible rfl)
  try simp only [zqT,zqS,zqZ,Act.put,zqB,zq0,zq1]
  refine wpAnyH_done (by kernel_rfl) ?_ _
  go_wp2_with fail
  go_ret
  exact ⟨ret_int HE.out,Trm.go B1.out HB0.out⟩
 ·by_cases h1 : 0 ≤ f1
  ·have HE := hid (HG5.out (Or.inr (Or.inl h1)))
   refine wp_region_held_drew (S := fun w' => w'.cell? ⟨bX,1,none⟩ = some (.string s) ∧ w'.cell? ⟨r,0,none⟩ = some (.slice aL L.length cL)) (by kernel_rfl) (⟨(HB0.out.cell (p := ⟨bX,1,none⟩) HBX.out).trans HC1.out,(HB0.out.cell (p := ⟨r,0,none⟩) HRL.out).trans HCL.out⟩) (fun hHeld => ?_)
   refine wpAnyH_take (i := 0) (v := ?vrb0) rfl (by kernel_rfl) (by kernel_rfl) (by kernel_rfl) (fun _ _ _ h => h) (Or.inl ⟨by rfl,?hyrb0⟩) (by assumption) ?restrb0
   case hyrb0 => (intro w hSw; (try dsimp only at hSw); go_simp <;> with_reducible rfl)
   try simp only [zqT,zqZ,Act.put,zqB,zq0,zq1]
   refine wpAnyH_take (i := 1) (v := ?vrb1) rfl (by kernel_rfl) (by kernel_rfl) (by kernel_rfl) (fun _ _ _ h => h) (Or.inl ⟨by rfl,?hyrb1⟩) (by assumption) ?restrb1
   case hyrb1 => (intro w hSw; (try dsimp only at hSw); go_simp <;> with_reducible rfl)
   try simp only [zqT,zqS,zqZ,Act.put,zqB,zq0,zq1]
   refine wpAnyH_ready (rs := [2]) (by kernel_rfl) (by simp) ?_
   refine AllReadyH.cons rfl (fun K hK => ?_) AllReadyH.nil
   go_simp
   refine (HNM.out _).mono ?_
   rintro y v3 ⟨rfl,rfl⟩
   refine hK.out _ _ (⟨(HB0.out.cell (p := ⟨bX,1,none⟩) HBX.out).trans HC1.out,(HB0.out.cell (p := ⟨r,0,none⟩) HRL.out).trans HCL.out⟩) (fun hHeld => ?_)
   clear hK K
   try simp only [zqT,zqS,zqZ,Act.put,zqB,zq0,zq1]
   refine wpAnyH_take (i := 3) (v := ?vrb3) rfl (by kernel_rfl) (by kernel_rfl) (by kernel_rfl) (fun _ _ _ h => h) (Or.inl ⟨by rfl,?hyrb3⟩) (by assumption) ?restrb3
   case hyrb3 => (intro w hSw; (try dsimp only at hSw); go_simp <;> with_reducible rfl)
   try simp only [zqT,zqS,zqZ,Act.put,zqB,zq0,zq1]
   refine wpAnyH_take (i := 4) (v := ?vrb4) rfl (by kernel_rfl) (by kernel_rfl) (by kernel_rfl) (fun _ _ _ h => h) (Or.inl ⟨by rfl,?hyrb4⟩) (by assumption) ?restrb4
   case hyrb4 => (intro w hSw; (try dsimp only at hSw); go_simp <;> with_reducible rfl)
   try simp only [zqT,zqS,zqZ,Act.put,zqB,zq0,zq1]
   refine wpAnyH_take (i := 5) (v := ?vrb5) rfl (by kernel_rfl) (by kernel_rfl) (by kernel_rfl) (fun _ _ _ h => h) (Or.inl ⟨by rfl,?hyrb5⟩) (by assumption) ?restrb5
   case hyrb5 => (intro w hSw; (try dsimp only at hSw); go_simp <;> with_reducible rfl)
   try simp only [zqT,zqS,zqZ,Act.put,zqB,zq0,zq1]
   refine wpAnyH_take (i := 6) (v := ?vrb6) rfl (by kernel_rfl) (by kernel_rfl) (by kernel_rfl) (fun _ _ _ h => h) (Or.inl ⟨by rfl,?hyrb6⟩) (by assumption) ?restrb6
   case hyrb6 => (intro w hSw; (try dsimp only at hSw); go_simp <;> with_reducible rfl)
   try simp only [zqT,zqS,zqZ,Act.put,zqB,zq0,zq1]
   refine wpAnyH_take (i := 7) (v := ?vrb7) rfl (by kernel_rfl) (by kernel_rfl) (by kernel_rfl) (fun _ _ _ h => h) (Or.inl ⟨by rfl,?hyrb7⟩) (by assumption) ?restrb7
   case hyrb7 => (intro w hSw; (try dsimp only at hSw); go_simp <;> with_reducible rfl)
   try simp only [zqT,zqS,zqZ,Act.put,zqB,zq0,zq1]
   refine wpAnyH_take (i := 8) (v := ?vrb8) rfl (by kernel_rfl) (by kernel_rfl) (by kernel_rfl) (fun _ _ _ h => h) (Or.inl ⟨by rfl,?hyrb8⟩) (by assumption) ?restrb8
   case hyrb8 => (intro w hSw; (try dsimp only at hSw); go_simp <;> with_reducible rfl)
   try simp only [zqT,zqS,zqZ,Act.put,zqB,zq0,zq1]
   refine wpAnyH_take (i := 9) (v := ?vrb9) rfl (by kernel_rfl) (by kernel_rfl) (by kernel_rfl) (fun _ _ _ h => h) (Or.inl ⟨by rfl,?hyrb9⟩) (by assumption) ?restrb9
   case hyrb9 => (intro w hSw; (try dsimp only at hSw); go_simp <;> with_reducible rfl)
   try simp only [zqT,zqS,zqZ,Act.put,zqB,zq0,zq1]
   refine wpAnyH_take (i := 10) (v := ?vrb10) rfl (by kernel_rfl) (by kernel_rfl) (by kernel_rfl) (fun _ _ _ h => h) (Or.inl ⟨by rfl,?hyrb10⟩) (by assumption) ?restrb10
   case hyrb10 => (intro w hSw; (try dsimp only at hSw); go_simp <;> with_reducible rfl)
   try simp only [zqT,zqS,zqZ,Act.put,zqB,zq0,zq1]
   refine wpAnyH_ready (rs := [11]) (by kernel_rfl) (by simp) ?_
   refine AllReadyH.cons rfl (fun K hK => ?_) AllReadyH.nil
   go_simp
   refine (HF1.out _ HB0.out).mono ?_
   rintro y v3 ⟨rfl,rfl⟩
   refine hK.out _ _ (⟨(HB0.out.cell (p := ⟨bX,1,none⟩) HBX.out).trans HC1.out,(HB0.out.cell (p := ⟨r,0,none⟩) HRL.out).trans HCL.out⟩) (fun hHeld => ?_)
   clear hK K
   try simp only [zqT,zqS,zqZ,Act.put,zqB,zq0,zq1]
   refine wpAnyH_take (i := 12) (v := ?vrb12) rfl (by kernel_rfl) (by kernel_rfl) (by kernel_rfl) (fun _ _ _ h => h) (Or.inl ⟨by rfl,?hyrb12⟩) (by assumption) ?restrb12
   case hyrb12 => (intro w hSw; (try dsimp only at hSw); go_simp <;> with_reducible rfl)
   try simp only [zqT,zqS,zqZ,Act.put,zqB,zq0,zq1]
   refine wpAnyH_take (i := 13) (v := ?vrb13) rfl (by kernel_rfl) (by kernel_rfl) (by kernel_rfl) (fun _ _ _ h => h) (Or.inl ⟨by rfl,?hyrb13⟩) (by assumption) ?restrb13
   case hyrb13 => (intro w hSw; (try dsimp only at hSw); go_simp <;> with_reducible rfl)
   try simp only [zqT,zqS,zqZ,Act.put,zqB,zq0,zq1]
   refine wpAnyH_take (i := 14) (v := ?vrb14) rfl (by kernel_rfl) (by kernel_rfl) (by kernel_rfl) (fun _ _ _ h => h) (Or.inl ⟨by rfl,?hyrb14⟩) (by assumption) ?restrb14
   case hyrb14 => (intro w hSw; (try dsimp only at hSw); go_simp <;> with_reducible rfl)
   try simp only [zqT,zqS,zqZ,Act.put,zqB,zq0,zq1]
   refine wpAnyH_take (i := 15) (v := undef) rfl (by kernel_rfl) (by kernel_rfl) (by kernel_rfl) (fun _ _ _ h => h) (Or.inr ⟨by rfl,rfl⟩) (by assumption) ?_
   try simp only [zqT,zqS,zqZ,Act.put,zqB,zq0,zq1]
   refine wpAnyH_take (i := 16) (v := undef) rfl (by kernel_rfl) (by kernel_rfl) (by kernel_rfl) (fun _ _ _ h => h) (Or.inr ⟨by rfl,rfl⟩) (by assumption) ?_
   try simp only [zqT,zqS,zqZ,Act.put,zqB,zq0,zq1]
   refine wpAnyH_take (i := 17) (v := undef) rfl (by kernel_rfl) (by kernel_rfl) (by kernel_rfl) (fun _ _ _ h => h) (Or.inr ⟨by rfl,rfl⟩) (by assumption) ?_
   try simp only [zqT,zqS,zqZ,Act.put,zqB,zq0,zq1]
   refine wpAnyH_take (i := 18) (v := undef) rfl (by kernel_rfl) (by kernel_rfl) (by kernel_rfl) (fun _ _ _ h => h) (Or.inr ⟨by rfl,rfl⟩) (by assumption) ?_
   try simp only [zqT,zqS,zqZ,Act.put,zqB,zq0,zq1]
   refine wpAnyH_take (i := 19) (v := undef) rfl (by kernel_rfl) (by kernel_rfl) (by kernel_rfl) (fun _ _ _ h => h) (Or.inr ⟨by rfl,rfl⟩) (by assumption) ?_
   try simp only [zqT,zqS,zqZ,Act.put,zqB,zq0,zq1]
   refine wpAnyH_take (i := 20) (v := undef) rfl (by kernel_rfl) (by kernel_rfl) (by kernel_rfl) (fun _ _ _ h => h) (Or.inr ⟨by rfl,rfl⟩) (by assumption) ?_
   try simp only [zqT,zqS,zqZ,Act.put,zqB,zq0,zq1]
   refine wpAnyH_take (i := 21) (v := undef) rfl (by kernel_rfl) (by kernel_rfl) (by kernel_rfl) (fun _ _ _ h => h) (Or.inr ⟨by rfl,rfl⟩) (by assumption) ?_
   try simp only [zqT,zqS,zqZ,Act.put,zqB,zq0,zq1]
   refine wpAnyH_take (i := 22) (v := ?vrb22) rfl (by kernel_rfl) (by kernel_rfl) (by kernel_rfl) (fun _ _ _ h => h) (Or.inl ⟨by rfl,?hyrb22⟩) (by assumption) ?restrb22
   case hyrb22 => (intro w hSw; (try dsimp only at hSw); go_simp <;> with_reducible rfl)
   try simp only [zqT,zqS,zqZ,Act.put,zqB,zq0,zq1]
   refine wpAnyH_done (by kernel_rfl) ?_ _
   go_wp2_with fail
   go_ret
   exact ⟨ret_int HE.out,Trm.go B1.out HB0.out⟩
  ·have h1b : f1 < 0 := by omega
   refine wp_region_held_drew (S := fun w' => w'.cell? ⟨bX,1,none⟩ = some (.string s) ∧ w'.cell? ⟨r,0,none⟩ = some (.slice aL L.length cL)) (by kernel_rfl) (⟨(HB0.out.cell (p := ⟨bX,1,none⟩) HBX.out).trans HC1.out,(HB0.out.cell (p := ⟨r,0,none⟩) HRL.out).trans HCL.out⟩) (fun hHeld => ?_)
   refine wpAnyH_take (i := 0) (v := ?vrc0) rfl (by kernel_rfl) (by kernel_rfl) (by kernel_rfl) (fun _ _ _ h => h) (Or.inl ⟨by rfl,?hyrc0⟩) (by assumption) ?restrc0
   case hyrc0 => (intro w hSw; (try dsimp only at hSw); go_simp <;> with_reducible rfl)
   try simp only [zqT,zqZ,Act.put,zqB,zq0,zq1]
   refine wpAnyH_take (i := 1) (v := ?vrc1) rfl (by kernel_rfl) (by kernel_rfl) (by kernel_rfl) (fun _ _ _ h => h) (Or.inl ⟨by rfl,?hyrc1⟩) (by assumption) ?restrc1
   case hyrc1 => (intro w hSw; (try dsimp only at hSw); go_simp <;> with_reducible rfl)
   try simp only [zqT,zqS,zqZ,Act.put,zqB,zq0,zq1]
   refine wpAnyH_ready (rs := [2]) (by kernel_rfl) (by simp) ?_
   refine AllReadyH.cons rfl (fun K hK => ?_) AllReadyH.nil
   go_simp
   refine (HNM.out _).mono ?_
   rintro y v3 ⟨rfl,rfl⟩
   refine hK.out _ _ (⟨(HB0.out.cell (p := ⟨bX,1,none⟩) HBX.out).trans HC1.out,(HB0.out.cell (p := ⟨r,0,none⟩) HRL.out).trans HCL.out⟩) (fun hHeld => ?_)
   clear hK K
   try simp only [zqT,zqS,zqZ,Act.put,zqB,zq0,zq1]
   refine wpAnyH_take (i := 3) (v := ?vrc3) rfl (by kernel_rfl) (by kernel_rfl) (by kernel_rfl) (fun _ _ _ h => h) (Or.inl ⟨by rfl,?hyrc3⟩) (by assumption) ?restrc3
   case hyrc3 => (intro w hSw; (try dsimp only at hSw); go_simp <;> with_reducible rfl)
   try simp only [zqT,zqS,zqZ,Act.put,zqB,zq0,zq1]
   refine wpAnyH_take (i := 4) (v := ?vrc4) rfl (by kernel_rfl) (by kernel_rfl) (by kernel_rfl) (fun _ _ _ h => h) (Or.inl ⟨by rfl,?hyrc4⟩) (by assumption) ?restrc4
   case hyrc4 => (intro w hSw; (try dsimp only at hSw); go_simp <;> with_reducible rfl)
   try simp only [zqT,zqS,zqZ,Act.put,zqB,zq0,zq1]
   refine wpAnyH_take (i := 5) (v := ?vrc5) rfl (by kernel_rfl) (by kernel_rfl) (by kernel_rfl) (fun _ _ _ h => h) (Or.inl ⟨by rfl,?hyrc5⟩) (by assumption) ?restrc5
   case hyrc5 => (intro w hSw; (try dsimp only at hSw); go_simp <;> with_reducible rfl)
   try simp only [zqT,zqS,zqZ,Act.put,zqB,zq0,zq1]
   refine wpAnyH_take (i := 6) (v := ?vrc6) rfl (by kernel_rfl) (by kernel_rfl) (by kernel_rfl) (fun _ _ _ h => h) (Or.inl ⟨by rfl,?hyrc6⟩) (by assumption) ?restrc6
   case hyrc6 => (intro w hSw; (try dsimp only at hSw); go_simp <;> with_reducible rfl)
   try simp only [zqT,zqS,zqZ,Act.put,zqB,zq0,zq1]
   refine wpAnyH_take (i := 7) (v := ?vrc7) rfl (by kernel_rfl) (by kernel_rfl) (by kernel_rfl) (fun _ _ _ h => h) (Or.inl ⟨by rfl,?hyrc7⟩) (by assumption) ?restrc7
   case hyrc7 => (intro w hSw; (try dsimp only at hSw); go_simp <;> with_reducible rfl)
   try simp only [zqT,zqS,zqZ,Act.put,zqB,zq0,zq1]
   refine wpAnyH_take (i := 8) (v := ?vrc8) rfl (by kernel_rfl) (by kernel_rfl) (by kernel_rfl) (fun _ _ _ h => h) (Or.inl ⟨by rfl,?hyrc8⟩) (by assumption) ?restrc8
   case hyrc8 => (intro w hSw; (try dsimp only at hSw); go_simp <;> with_reducible rfl)
   try simp only [zqT,zqS,zqZ,Act.put,zqB,zq0,zq1]
   refine wpAnyH_take (i := 9) (v := ?vrc9) rfl (by kernel_rfl) (by kernel_rfl) (by kernel_rfl) (fun _ _ _ h => h) (Or.inl ⟨by rfl,?hyrc9⟩) (by assumption) ?restrc9
   case hyrc9 => (intro w hSw; (try dsimp only at hSw); go_simp <;> with_reducible rfl)
   try simp only [zqT,zqS,zqZ,Act.put,zqB,zq0,zq1]
   refine wpAnyH_take (i := 10) (v := ?vrc10) rfl (by kernel_rfl) (by kernel_rfl) (by kernel_rfl) (fun _ _ _ h => h) (Or.inl ⟨by rfl,?hyrc10⟩) (by assumption) ?restrc10
   case hyrc10 => (intro w hSw; (try dsimp only at hSw); go_simp <;> with_reducible rfl)
   try simp only [zqT,zqS,zqZ,Act.put,zqB,zq0,zq1]
   refine wpAnyH_ready (rs := [11]) (by kernel_rfl) (by simp) ?_
   refine AllReadyH.cons rfl (fun K hK => ?_) AllReadyH.nil
   go_simp
   refine (HF1.out _ HB0.out).mono ?_
   rintro y v3 ⟨rfl,rfl⟩
   refine hK.out _ _ (⟨(HB0.out.cell (p := ⟨bX,1,none⟩) HBX.out).trans HC1.out,(HB0.out.cell (p := ⟨r,0,none⟩) HRL.out).trans HCL.out⟩) (fun hHeld => ?_)
   clear hK K
   try simp only [zqT,zqS,zqZ,Act.put,zqB,zq0,zq1]
   refine wpAnyH_take (i := 12) (v := ?vrc12) rfl (by kernel_rfl) (by kernel_rfl) (by kernel_rfl) (fun _ _ _ h => h) (Or.inl ⟨by rfl,?hyrc12⟩) (by assumption) ?restrc12
   case hyrc12 => (intro w hSw; (try dsimp only at hSw); go_simp <;> with_reducible rfl)
   try simp only [zqT,zqS,zqZ,Act.put,zqB,zq0,zq1]
   refine wpAnyH_take (i := 13) (v := ?vrc13) rfl (by kernel_rfl) (by kernel_rfl) (by kernel_rfl) (fun _ _ _ h => h) (Or.inl ⟨by rfl,?hyrc13⟩) (by assumption) ?restrc13
   case hyrc13 => (intro w hSw; (try dsimp only at hSw); go_simp <;> with_reducible rfl)
   try simp only [zqT,zqS,zqZ,Act.put,zqB,zq0,zq1]
   refine wpAnyH_take (i := 14) (v := ?vrc14) rfl (by kernel_rfl) (by kernel_rfl) (by kernel_rfl) (fun _ _ _ h => h) (Or.inl ⟨by rfl,?hyrc14⟩) (by assumption) ?restrc14
   case hyrc14 => (intro w hSw; (try dsimp only at hSw); go_simp <;> with_reducible rfl)
   try simp only [zqT,zqS,zqZ,Act.put,zqB,zq0,zq1]
   refine wpAnyH_take (i := 15) (v := ?vrc15) rfl (by kernel_rfl) (by kernel_rfl) (by kernel_rfl) (fun _ _ _ h => h) (Or.inl ⟨by rfl,?hyrc15⟩) (by assumption) ?restrc15
   case hyrc15 => (intro w hSw; (try dsimp only at hSw); go_simp <;> with_reducible rfl)
   try simp only [zqT,zqS,zqZ,Act.put,zqB,zq0,zq1]
   refine wpAnyH_take (i := 16) (v := ?vrc16) rfl (by kernel_rfl) (by kernel_rfl) (by kernel_rfl) (fun _ _ _ h => h) (Or.inl ⟨by rfl,?hyrc16⟩) (by assumption) ?restrc16
   case hyrc16 => (intro w hSw; (try dsimp only at hSw); go_simp <;> with_reducible rfl)
   try simp only [zqT,zqS,zqZ,Act.put,zqB,zq0,zq1]
   refine wpAnyH_take (i := 17) (v := ?vrc17) rfl (by kernel_rfl) (by kernel_rfl) (by kernel_rfl) (fun _ _ _ h => h) (Or.inl ⟨by rfl,?hyrc17⟩) (by assumption) ?restrc17
   case hyrc17 => (intro w hSw; (try dsimp only at hSw); go_simp <;> with_reducible rfl)
   try simp only [zqT,zqS,zqZ,Act.put,zqB,zq0,zq1]
   refine wpAnyH_take (i := 18) (v := ?vrc18) rfl (by kernel_rfl) (by kernel_rfl) (by kernel_rfl) (fun _ _ _ h => h) (Or.inl ⟨by rfl,?hyrc18⟩) (by assumption) ?restrc18
   case hyrc18 => (intro w hSw; (try dsimp only at hSw); go_simp <;> with_reducible rfl)
   try simp only [zqT,zqS,zqZ,Act.put,zqB,zq0,zq1]
   refine wpAnyH_take (i := 19) (v := ?vrc19) rfl (by kernel_rfl) (by kernel_rfl) (by kernel_rfl) (fun _ _ _ h => h) (Or.inl ⟨by rfl,?hyrc19⟩) (by assumption) ?restrc19
   case hyrc19 => (intro w hSw; (try dsimp only at hSw); go_simp <;> with_reducible rfl)
   try simp only [zqT,zqS,zqZ,Act.put,zqB,zq0,zq1]
   refine wpAnyH_ready (rs := [20]) (by kernel_rfl) (by simp) ?_
   refine AllReadyH.cons rfl (fun K hK => ?_) AllReadyH.nil
   go_simp
   refine (HF2.out _ HB0.out).mono ?_
   rintro y v3 ⟨rfl,rfl⟩
   refine hK.out _ _ (⟨(HB0.out.cell (p := ⟨bX,1,none⟩) HBX.out).trans HC1.out,(HB0.out.cell (p := ⟨r,0,none⟩) HRL.out).trans HCL.out⟩) (fun hHeld => ?_)
   clear hK K
   try simp only [zqT,zqS,zqZ,Act.put,zqB,zq0,zq1]
   refine wpAnyH_take (i := 21) (v := ?vrc21) rfl (by kernel_rfl) (by kernel_rfl) (by kernel_rfl) (fun _ _ _ h => h) (Or.inl ⟨by rfl,?hyrc21⟩) (by assumption) ?restrc21
   case hyrc21 => (intro w hSw; (try dsimp only at hSw); go_simp <;> with_reducible rfl)
   try simp only [zqT,zqS,zqZ,Act.put,zqB,zq0,zq1]
   refine wpAnyH_take (i := 22) (v := ?vrc22) rfl (by kernel_rfl) (by kernel_rfl) (by kernel_rfl) (fun _ _ _ h => h) (Or.inl ⟨by rfl,?hyrc22⟩) (by assumption) ?restrc22
   case hyrc22 => (intro w hSw; (try dsimp only at hSw); go_simp <;> with_reducible rfl)
   try simp only [zqT,zqS,zqZ,Act.put,zqB,zq0,zq1]
   refine wpAnyH_done (by kernel_rfl) ?_ _
   by_cases h2 : 0 ≤ f2
   ·have HE := hid (HG5.out (Or.inr (Or.inr h2)))
    have hd2 : decide (0 ≤ f2) = true := decide_eq_true h2
    go_wp2_with fail
    go_ret
    exact ⟨ret_int HE.out,Trm.go B1.out HB0.out⟩
   ·have h2b : f2 < 0 := by omega
    have hd2 : decide (0 ≤ f2) = false := decide_eq_false (by omega)
    have hd3 : (0 ≤ f2) = False := eq_false (by omega)
    have HG7 := hid (HG6.out rfl (by omega) (by omega))
    obtain ⟨W2,hW2⟩ : ∃ W,W = W1.drew := ⟨_,rfl⟩
    have B2 := hid (show Below W1.heap.size W1 W2 from hW2 ▸ HB0.out)
    rw [← hW2]
    clear hW2 hHeld h1 h1b HF1 HF2 HNM HG5 HG6 HC1 HNS hsl
    have HX2 := hid (HX.out.keep B2.out)
    have k0 : W2.cell? ⟨bX,0,none⟩ = some (.int .u8 x.kind) := HX2.out.cell 0
    have hrow2 : W2.heap[bX]? = some (.cells (x.vals hd).toArray 46) := HX2.out
    have HNU := hid (numbers7_any (w0 := W2) ((HI1.out.below B2.out).mono B2.out.size).rules HRU.out)
    have HGK : Hid (x.isKind = false → 1 = G) := hid (fun h => by rw [HG7.out,if_pos h])
    have HGN : Hid (x.isKind = true → x.nums = false → 1 = G) := hid (fun h h2 => by rw [HG7.out,if_neg (by rw [h]; simp),if_pos h2])
    have HGP : Hid (x.isKind = true → x.nums = true → G = if x.params < 0 then 8 else if 4 < x.params then 8 else wrongTB M (names l) n x.params.toNat x) := hid (fun h h2 => by rw [HG7.out,if_neg (by rw [h]; simp),if_neg (by rw [h2]; simp)])
    obtain ⟨nu,hnu⟩ : ∃ q,q = x.nums := ⟨_,rfl⟩
    rw [← hnu] at HNU HGN HGP
    have HBW2 := hid (Trm.go B1.out B2.out)
    obtain ⟨kd,hkd⟩ : ∃ kd,kd = x.kind := ⟨_,rfl⟩
    rw [← hkd] at k0
    have HKD := hid hkd
    by_cases hk1 : kd < 1
    ·have HE := hid (HGK.out (by unfold Inf.isKind; rw [← hkd,decide_eq_false (show ¬ 1 ≤ kd by omega)]; rfl))
     clear hkd hnu hrow2
     go_wp2_with fail
     go_ret
     exact ⟨ret_int HE.out,HBW2.out⟩
    ·have hk1b : 1 ≤ kd := by omega
     have e1 : decide (kd < 1) = false := decide_eq_false (by omega)
     by_cases hk6 : 6 < kd
     ·have HE := hid (HGK.out (by unfold Inf.isKind; rw [← hkd,decide_eq_false (show ¬ kd ≤ 6 by omega),Bool.and_false]))
      clear hkd hnu hrow2
      go_wp2_with fail
      go_ret
      exact ⟨ret_int HE.out,HBW2.out⟩
     ·have hk6b : kd ≤ 6 := by omega
      have e6 : decide (6 < kd) = false := decide_eq_false (by omega)
      have HIK : Hid (x.isKind = true) := hid (by unfold Inf.isKind; rw [← hkd,decide_eq_true hk1b,decide_eq_true hk6b]; rfl)
      clear hkd hnu hk1 hk6
      go_wp2_with (first
       | (refine wpList_load_rowG rfl 46 (.tmp 7) rfl (some 50) rfl bX rfl 46 _ (0,0) _ hrow2 Tryz.underlying46 rfl HKR.out ?_))
      refine HNU.out.mono ?_
      rintro y W3 ⟨rfl,b3⟩
      have B3 := hid b3
      have HBW3 := hid (Trm.go HBW2.out b3)
      have HX3 := hid (HX2.out.keep b3)
      clear b3 hrow2 k0
      cases nu
      ·have HE := hid (HGN.out HIK.out rfl)
       go_wp2_with fail
       go_ret
       exact ⟨ret_int HE.out,HBW3.out⟩
      ·have HG8 := hid (HGP.out HIK.out rfl)
       clear HGP HGN HGK HG7 HIK
       have p2 : W3.cell? ⟨bX,2,none⟩ = some (.int .i64 x.params) := HX3.out.cell 2
       obtain ⟨pm,hpm⟩ : ∃ q,q = x.params := ⟨_,rfl⟩
       rw [← hpm] at p2 HG8
       by_cases hp1 : pm < 0
       ·have HE : Hid (8 = G) := hid (by rw [HG8.out,if_pos hp1])
        clear hpm
        go_wp2_with fail
        go_ret
        exact ⟨ret_int HE.out,HBW3.out⟩
       ·have hp1b : 0 ≤ pm := by omega
        have ep1 : decide (pm < 0) = false := decide_eq_false (by omega)
        by_cases hp4 : 4 < pm
        ·have HE : Hid (8 = G) := hid (by rw [HG8.out,if_neg hp1,if_pos hp4])
         clear hpm
         go_wp2_with fail
         go_ret
         exact ⟨ret_int HE.out,HBW3.out⟩
        ·have hp4b : pm ≤ 4 := by omega
         have ep4 : decide (4 < pm) = false := decide_eq_false (by omega)
         obtain ⟨m,hm⟩ : ∃ m : Nat,pm = (m : Int) := ⟨pm.toNat,by omega⟩
         have HM4 : Hid (m ≤ 4) := hid (by omega)
         have HG9 : Hid (G = wrongTB M (names l) n m x) := hid (by rw [HG8.out,if_neg hp1,if_neg hp4,hm]; rfl)
         subst hm
         have HPM := hid hpm
         clear hpm hp1 hp4 HG8
         have hrow3 : W3.heap[bX]? = some (.cells (x.vals hd).toArray 46) := HX3.out
         have HI3 := hid (show x.In W3.heap.size W3 hd from ((HIN.out.below HBW3.out).mono HBW3.out.size))
         have HTM := hid (terms7_any (B := W3.heap.size) HI3.out (Nat.le_refl _) HRU.out)
         go_upto_region 8 with fail
         clear p2 hp1b hp4b ep1 ep4
         go_wp2_with (first
          | (refine wpList_load_row rfl 46 (.tmp 7) rfl bX rfl 46 _ (0,0) _ hrow3 Tryz.underlying46 rfl HKR.out ?_))
         refine HTM.out.mono ?_
         rintro y W4 ⟨ao,cp,rfl,hrb,b4⟩
         have HBW4 := hid (Trm.go HBW3.out b4)
         have HX4 := hid (HX3.out.keep b4)
         have HRI := hid (show RowIn W4.heap.size W4 ao 0 x.terms from hrb.rowIn b4.size)
         clear hrb b4 hrow3 HTM
         have HTF : Hid (x.terms.length ≤ 1002) := hid (by have := terms_few x; have := HRU.out; omega)
         obtain ⟨ts,hts⟩ : ∃ q,q = x.terms := ⟨_,rfl⟩
         have HG10 : Hid (G = if firstE (fun t => openB t m) ts = 0 then firstE (fun t => unk (t.nms.all (known M (names l) n x.hv))) ts else firstE (fun t => openB t m) ts) := hid (by rw [HG9.out,hts]; rfl)
         rw [← hts] at HRI HTF ⊢
         clear hts HG9
         go_upto_region 10 with fail
         go_loopw [9] (fun i wr => ChT W4 m ts i wr) (fun i _ => ts.length - (intOf i).toNat)
         case atStart => exact ⟨0,rfl,by omega,fun j _ hj => by omega,Below.refl _ _⟩
         case round =>
          obtain ⟨k,rfl,hk,hall,hbel⟩ := hrel
          have HALL := hid hall
          have HBEL := hid hbel
          clear hall hbel
          by_cases hlt : k < ts.length
          ·obtain ⟨b5,off5,hao,hb5,ht,hct,hit⟩ := (Trm.RowIn.below HRI.out HBEL.out).place k hlt
           rw [Nat.zero_add] at hct
           have HCT := hid hct
           have hlt5 : b5 < wr.heap.size := Nat.lt_of_lt_of_le hb5 HBEL.out.size
           obtain ⟨c0,c1,c2,c3,c4⟩ := hct
           subst hao
           have HIT := hid (Tm.In.mono HBEL.out.size _ _ hit)
           have HNO : Hid (openB ts[k] m ≠ 0 → openB ts[k] m = G) := hid (fun hh => by
            have h0 := firstE_at (f := fun t => openB t m) hlt HALL.out hh
            rw [HG10.out,if_neg (by rw [h0]; exact hh),h0])
           have HYE : Hid (openB ts[k] m = 0 → ∀ j (h : j < ts.length),j < k + 1 → openB ts[j] m = 0) := hid (fun hh j hj hjk => by
            by_cases e : j = k
            ·subst e; exact hh
            ·exact HALL.out j hj (by omega))
           obtain ⟨t,hte⟩ : ∃ t,t = ts[k] := ⟨_,rfl⟩
           rw [← hte] at c0 c1 c2 c3 c4 HIT HNO HYE HCT
           have HLT := hid hlt
           have hkb : k < 1000000 := by have := HTF.out; omega
           have hwk := (wk_two hkb).1
           have hwk2 := (wk_two hkb).2
           have HRM := hid (RefTMay_any t ht wr HIT.out)
           have HRF := hid (fun (hm : t.may = true) (W : World) (hW : Below wr.heap.size wr W) => RefFree_any t ht W hm (carry HIT.out hW))
           have HRB := hid (fun (hm : t.may = true) (W : World) (hW : Below wr.heap.size wr W) => bel7_any m HM4.out t ht 1 W (OkMay.start hm) (carry HIT.out hW))
           unfold Tm.val Tm.vals at HRM HRF HRB
           have HO7 : Hid (t.may = false → 7 = G) := hid (fun h => by
            have e : openB t m = 7 := by unfold openB; rw [if_neg (by rw [h]; simp)]
            rw [← HNO.out (by rw [e]; decide),e])
           have HO8 : Hid (t.may = true → 0 < t.free → 7 = G) := hid (fun h hf => by
            have e : openB t m = 7 := by unfold openB; rw [if_neg (by omega)]
            rw [← HNO.out (by rw [e]; decide),e])
           have HO9 : Hid (t.may = true → ¬ 0 < t.free → t.bel m = false → 8 = G) := hid (fun h hf hb => by
            have e : openB t m = 8 := by unfold openB; rw [if_pos ⟨h,by omega⟩,if_neg (by rw [hb]; simp)]
            rw [← HNO.out (by rw [e]; decide),e])
           have HO0 : Hid (t.may = true → ¬ 0 < t.free → t.bel m = true → ∀ j (h : j < ts.length),j < k + 1 → openB ts[j] m = 0) := hid (fun h hf hb => HYE.out (by unfold openB; rw [if_pos ⟨h,by omega⟩,if_pos hb]))
           clear hte hit HNO HYE
           cases hmay : t.may
           ·rw [hmay] at HRM
            have HE := hid (HO7.out hmay)
            clear hmay
            go_wp2_with fail
            refine HRM.out.mono ?_
            rintro y w5 ⟨rfl,b5'⟩
            have HB5 := hid (Trm.go HBW4.out (Trm.go HBEL.out b5'))
            clear b5'
            go_wp2_with fail
            go_ret
            exact ⟨ret_int HE.out,HB5.out⟩
           ·rw [hmay] at HRM
            have HRF1 := hid (HRF.out hmay)
            have HRB1 := hid (HRB.out hmay)
            have HO8 := hid (HO8.out hmay)
            have HO9 := hid (HO9.out hmay)
            have HO0 := hid (HO0.out hmay)
            clear hmay HO7 HRF HRB
            obtain ⟨fr,hfr⟩ : ∃ q,q = t.free := ⟨_,rfl⟩
            rw [← hfr] at HRF1 HO8 HO9 HO0
            obtain ⟨bl,hbl⟩ : ∃ q,q = t.bel m := ⟨_,rfl⟩
            rw [← hbl] at HRB1 HO9 HO0
            clear hfr hbl
            go_wp2_with fail
            refine HRM.out.mono ?_
            rintro y w5 ⟨rfl,b5'⟩
            have B5 := hid b5'
            have HRF2 := hid (HRF1.out w5 b5')
            clear b5' c0 c1 c2 c3 c4
            obtain ⟨c0,c1,c2,c3,c4⟩ := HCT.out.below B5.out hlt5
            go_wp2_with fail
            refine HRF2.out.mono ?_
            rintro y w6 ⟨rfl,b6⟩
            have B6 := hid (Trm.go B5.out b6)
            have HB6 := hid (Trm.go HBW4.out (Trm.go HBEL.out B6.out))
            clear b6 c0 c1 c2 c3 c4
            obtain ⟨c0,c1,c2,c3,c4⟩ := HCT.out.below B6.out hlt5
            by_cases hfr : 0 < fr
            ·have HE := hid (HO8.out hfr)
             go_wp2_with fail
             go_ret
             exact ⟨ret_int HE.out,HB6.out⟩
            ·have hfrb : fr ≤ 0 := by omega
             have ef : decide (0 < fr) = false := decide_eq_false (by omega)
             have HO9 := hid (HO9.out (by omega))
             have HO0 := hid (HO0.out (by omega))
             have p2 : w6.cell? ⟨bX,2,none⟩ = some (.int .i64 m) := by
              have := ((HX4.out.keep (Trm.go HBEL.out B6.out)).cell 2)
              rw [HPM.out]
              exact this
             have HC6 := hid (show ∀ W : World,Below w6.heap.size w6 W → W.cell? ⟨bX,2,none⟩ = some (.int .i64 m) ∧ W.cell? ⟨b5,off5 + k * 5,none⟩ = some (.int .u8 t.k) ∧ W.cell? ⟨b5,off5 + k * 5 + 1,none⟩ = some (.int .i64 t.n) ∧ W.cell? ⟨b5,off5 + k * 5 + 2,none⟩ = some (.string t.s) ∧ W.cell? ⟨b5,off5 + k * 5 + 3,none⟩ = some (.slice ht.lo t.ls.length ht.lc) ∧ W.cell? ⟨b5,off5 + k * 5 + 4,none⟩ = some (.slice ht.to t.ts.length ht.tc) from fun W hW => ⟨((HX4.out.keep (Trm.go HBEL.out (Trm.go B6.out hW))).cell 2).trans (by rw [HPM.out]; rfl),(HCT.out.below (Trm.go B6.out hW) hlt5).1,(HCT.out.below (Trm.go B6.out hW) hlt5).2,(HCT.out.below (Trm.go B6.out hW) hlt5).3,(HCT.out.below (Trm.go B6.out hW) hlt5).4,(HCT.out.below (Trm.go B6.out hW) hlt5).5⟩)
             have HBD : Hid (Below w6.heap.size w6 w6.drew) := hid (Below.refl _ _).drew
             have HRB2 := hid (HRB1.out w6.drew (Trm.go B6.out HBD.out))
             clear hfr
             go_wp2_with fail
             refine wp_region_held_drew (S := fun w' => w'.cell? ⟨bX,2,none⟩ = some (.int .i64 m) ∧ w'.cell? ⟨b5,off5 + k * 5,none⟩ = some (.int .u8 t.k) ∧ w'.cell? ⟨b5,off5 + k * 5 + 1,none⟩ = some (.int .i64 t.n) ∧ w'.cell? ⟨b5,off5 + k * 5 + 2,none⟩ = some (.string t.s) ∧ w'.cell? ⟨b5,off5 + k * 5 + 3,none⟩ = some (.slice ht.lo t.ls.length ht.lc) ∧ w'.cell? ⟨b5,off5 + k * 5 + 4,none⟩ = some (.slice ht.to t.ts.length ht.tc)) (by kernel_rfl) (HC6.out _ HBD.out) (fun hHeld => ?_)
             refine wpAnyH_take (i := 0) (v := ?vrf0) rfl (by kernel_rfl) (by kernel_rfl) (by kernel_rfl) (fun _ _ _ h => h) (Or.inl ⟨by rfl,?hyrf0⟩) (by assumption) ?restrf0
             case hyrf0 => (intro w hSw; (try dsimp only at hSw); go_simp <;> with_reducible rfl)
             try simp only [zqT,zqZ,Act.put,zqB,zq0,zq1]
             refine wpAnyH_take (i := 1) (v := ?vrf1) rfl (by kernel_rfl) (by kernel_rfl) (by kernel_rfl) (fun _ _ _ h => h) (Or.inl ⟨by rfl,?hyrf1⟩) (by assumption) ?restrf1
             case hyrf1 => (intro w hSw; (try dsimp only at hSw); go_simp <;> with_reducible rfl)
             try simp only [zqT,zqS,zqZ,Act.put,zqB,zq0,zq1]
             refine wpAnyH_take (i := 2) (v := ?vrf2) rfl (by kernel_rfl) (by kernel_rfl) (by kernel_rfl) (fun _ _ _ h => h) (Or.inl ⟨by rfl,?hyrf2⟩) (by assumption) ?restrf2
             case hyrf2 => (intro w hSw; (try dsimp only at hSw); go_simp <;> with_reducible rfl)
             try simp only [zqT,zqS,zqZ,Act.put,zqB,zq0,zq1]
             refine wpAnyH_take (i := 3) (v := ?vrf3) rfl (by kernel_rfl) (by kernel_rfl) (by kernel_rfl) (fun _ _ _ h => h) (Or.inl ⟨by rfl,?hyrf3⟩) (by assumption) ?restrf3
             case hyrf3 => (intro w hSw; (try dsimp only at hSw); go_simp <;> with_reducible rfl)
             try simp only [zqT,zqS,zqZ,Act.put,zqB,zq0,zq1]
             refine wpAnyH_take (i := 4) (v := ?vrf4) rfl (by kernel_rfl) (by kernel_rfl) (by kernel_rfl) (fun _ _ _ h => h) (Or.inl ⟨by rfl,?hyrf4⟩) (by assumption) ?restrf4
             case hyrf4 => (intro w hSw; (try dsimp only at hSw); go_simp <;> with_reducible rfl)
             try simp only [zqT,zqS,zqZ,Act.put,zqB,zq0,zq1]
             refine wpAnyH_take (i := 5) (v := ?vrf5) rfl (by kernel_rfl) (by kernel_rfl) (by kernel_rfl) (fun _ _ _ h => h) (Or.inl ⟨by rfl,?hyrf5⟩) (by assumption) ?restrf5
             case hyrf5 => (intro w hSw; (try dsimp only at hSw); go_simp <;> with_reducible rfl)
             try simp only [zqT,zqS,zqZ,Act.put,zqB,zq0,zq1]
             refine wpAnyH_ready (rs := [6]) (by kernel_rfl) (by simp) ?_
             refine AllReadyH.cons rfl (fun K hK => ?_) AllReadyH.nil
             go_simp
             refine HRB2.out.mono ?_
             rintro y w7 ⟨rfl,b7⟩
             have HB7 := hid (Trm.go HBD.out b7)
             clear b7
             refine hK.out _ _ (HC6.out _ HB7.out) (fun hHeld => ?_)
             clear hK K
             try simp only [zqT,zqS,zqZ,Act.put,zqB,zq0,zq1]
             refine wpAnyH_take (i := 7) (v := ?vrf7) rfl (by kernel_rfl) (by kernel_rfl) (by kernel_rfl) (fun _ _ _ h => h) (Or.inl ⟨by rfl,?hyrf7⟩) (by assumption) ?restrf7
             case hyrf7 => (intro w hSw; (try dsimp only at hSw); go_simp <;> with_reducible rfl)
             try simp only [zqT,zqS,zqZ,Act.put,zqB,zq0,zq1]
             refine wpAnyH_done (by kernel_rfl) ?_ _
             have HB8 := hid (Trm.go B6.out HB7.out)
             have HB9 := hid (Trm.go HBEL.out HB8.out)
             have HB10 := hid (Trm.go HBW4.out HB9.out)
             cases bl
             ·have HE := hid (HO9.out rfl)
              go_wp2_with fail
              go_ret
              exact ⟨ret_int HE.out,HB10.out⟩
             ·have HE := hid (HO0.out rfl)
              go_wp2_with fail
              go_roundw
              case rel => exact ⟨k + 1,by first | rfl | (rw [hwk]; rfl),HLT.out,HE.out,HB9.out⟩
              case measure => first | exact less_step rfl HLT.out | exact less_step hwk HLT.out
          ·have HMAY : Hid (∀ j (h : j < ts.length),ts[j].may = true) := hid (fun j hj => by
            have h0 := HALL.out j hj (by omega)
            unfold openB at h0
            by_cases h1 : ts[j].may = true ∧ ts[j].free ≤ 0
            ·exact h1.1
            ·rw [if_neg h1] at h0; exact absurd h0 (by decide))
           have HG11 : Hid (G = firstE (fun t => unk (t.nms.all (known M (names l) n x.hv))) ts) := hid (by
            rw [HG10.out,if_pos (firstE_zero fun j hj => HALL.out j hj (by omega))])
           obtain ⟨W5,hW5⟩ : ∃ W,W = wr := ⟨_,rfl⟩
           rw [← hW5] at HBEL ⊢
           have HBW5 := hid (Trm.go HBW4.out HBEL.out)
           have HX5 := hid (HX4.out.keep HBEL.out)
           have HRI5 := hid ((Trm.RowIn.below HRI.out HBEL.out).mono HBEL.out.size)
           clear hW5 HALL HG10
           obtain ⟨f,hf⟩ : ∃ f : List UInt8 → Bool,f = known M (names l) n x.hv := ⟨_,rfl⟩
           have HKF : Hid (∀ s : ByteArray,f (key s) = (decide (0 ≤ findZ L s) || decide (0 ≤ findZ (if x.hv = true then l.take n else l) s))) := hid (fun s => by rw [hf]; exact HKN.out x.hv s)
           rw [← hf] at HG11
           clear hf
           go_upto_region 17 with fail
           go_loopw [10] (fun i wr => ChN W5 (fun t => unk (t.nms.all f)) ts i wr) (fun i _ => ts.length - (intOf i).toNat)
           case atStart => exact ⟨0,rfl,by omega,fun j _ hj => by omega,Below.refl _ _⟩
           case round =>
            obtain ⟨k,rfl,hk,hall,hbel⟩ := hrel
            have HALL := hid hall
            have HBEL2 := hid hbel
            clear hall hbel
            by_cases hlt : k < ts.length
            ·obtain ⟨b5,off5,hao,hb5,ht,hct,hit⟩ := (Trm.RowIn.below HRI5.out HBEL2.out).place k hlt
             rw [Nat.zero_add] at hct
             obtain ⟨c0,c1,c2,c3,c4⟩ := hct
             subst hao
             have HIT := hid (Tm.In.mono HBEL2.out.size _ _ hit)
             have HMY := hid (HMAY.out k hlt)
             have HNO : Hid (ts[k].nms.all f = false → 6 = G) := hid (fun hh => by
              have e : unk (ts[k].nms.all f) = 6 := by rw [hh]; rfl
              have h0 := firstE_at (f := fun t => unk (t.nms.all f)) hlt HALL.out (by show unk (ts[k].nms.all f) ≠ 0; rw [e]; decide)
              rw [HG11.out,h0]
              exact e.symm)
             have HYE : Hid (ts[k].nms.all f = true → ∀ j (h : j < ts.length),j < k + 1 → (fun t => unk (t.nms.all f)) ts[j] = 0) := hid (fun hh j hj hjk => by
              by_cases e : j = k
              ·subst e; show unk (ts[j].nms.all f) = 0; rw [hh]; rfl
              ·exact HALL.out j hj (by omega))
             obtain ⟨t,hte⟩ : ∃ t,t = ts[k] := ⟨_,rfl⟩
             rw [← hte] at c0 c1 c2 c3 c4 HIT HNO HYE HMY
             have HLT := hid hlt
             have hkb : k < 1000000 := by have := HTF.out; omega
             have hwk := (wk_two hkb).1
             have hwk2 := (wk_two hkb).2
             have HRN := hid (RefNames_any t ht wr HMY.out HIT.out)
             unfold Tm.val Tm.vals at HRN
             have HRS := hid (rs_few HMY.out)
             clear hte hit
             obtain ⟨R,hR⟩ : ∃ q,q = addN t.nms [] := ⟨_,rfl⟩
             rw [← hR] at HRN HRS
             have HNO2 : Hid (∀ j (h : j < R.length),f R[j] = false → 6 = G) := hid (fun j hj hf => HNO.out (by
              rw [List.all_eq_false]
              exact ⟨_,(HRS.out.2 _).1 (List.getElem_mem hj),by rw [hf]; simp⟩))
             have HYE2 : Hid ((∀ j (h : j < R.length),f R[j] = true) → ∀ j (h : j < ts.length),j < k + 1 → (fun t => unk (t.nms.all f)) ts[j] = 0) := hid (fun hh => HYE.out (by
              rw [List.all_eq_true]
              intro y hy
              obtain ⟨j,hj,rfl⟩ := List.getElem_of_mem ((HRS.out.2 y).2 hy)
              exact hh j hj))
             clear hR HNO HYE
             go_wp2_with fail
             refine HRN.out.mono ?_
             rintro y w6 ⟨v6,rfl,hnr,b6⟩
             have B6 := hid (Trm.go HBEL2.out b6)
             have HBW6 := hid (Trm.go HBW5.out B6.out)
             have HX6 := hid (HX5.out.keep B6.out)
             clear c0 c1 c2 c3 c4 b6
             obtain ⟨aR,cR,hv6,hpl⟩ := nr_slice hnr
             subst hv6
             have HPL := hid hpl
             clear hnr hpl
             have HRC6 := hid (HRC.out.below HBW6.out)
             have HNR6 := hid (HNR.out.below HBW6.out)
             have k0 : w6.cell? ⟨bX,0,none⟩ = some (.int .u8 x.kind) := HX6.out.cell 0
             rw [← HKD.out] at k0
             have HC0 := hid k0
             clear k0
             go_upto_region 21 with fail
             go_loopw [12] (fun i wr' => ChS w6 f R i wr') (fun i _ => R.length - (intOf i).toNat)
             case atStart => exact ⟨0,rfl,by omega,fun j _ hj => by omega,Below.refl _ _⟩
             case round =>
              obtain ⟨j,rfl,hj,hall2,hb7⟩ := hrel
              have HALL2 := hid hall2
              have B7 := hid hb7
              clear hall2 hb7
              by_cases hltj : j < R.length
              ·obtain ⟨g6,hg6,hs60⟩ := HPL.out j hltj
               subst hg6
               have hs6 := (B7.out.cell (p := ⟨g6,j,none⟩) (World.block_lt_of_cell? w6 _ hs60)).trans hs60
               clear hs60
               have BN := hid (B7.out.drew)
               have hjb : j < 1000000 := by have := HRS.out.1; omega
               have HKJ := hid (HKF.out ⟨R[j].toArray⟩)
               have hkk : key ⟨R[j].toArray⟩ = R[j] := by simp [key]
               rw [hkk] at HKJ
               have HNJ := hid (HNO2.out j hltj)
               have HYJ : Hid (f R[j] = true → ∀ i (h : i < R.length),i < j + 1 → f R[i] = true) := hid (fun hh i hi hij => by
                by_cases e : i = j
                ·subst e; exact hh
                ·exact HALL2.out i hi (Nat.lt_of_le_of_ne (Nat.le_of_lt_succ hij) e))
               generalize f R[j] = fz at HKJ HNJ HYJ
               generalize (⟨R[j].toArray⟩ : ByteArray) = sj at hs6 HKJ
               have HLTJ := hid hltj
               have hwj := (wk_two hjb).1
               have hwj2 := (wk_two hjb).2
               clear hjb
               clear hkk
               obtain ⟨aL6,cL6,hcL6,hnL6⟩ := (HRC6.out.below B7.out).box
               have HCS := hid (show wr.cell? ⟨r,0,none⟩ = some (.slice aL6 L.length cL6) ∧ wr.cell? ⟨g6,j,none⟩ = some (.string sj) from ⟨hcL6,hs6⟩)
               have HBD : Hid (Below wr.heap.size wr wr.drew) := hid (Below.refl _ _).drew
               have HFA := hid (find7_any L aL6 cL6 sj wr.drew (hnL6.below HBD.out) (by have := HLF.out; omega))
               have HFT := hid (show Calls Tryz.prog 69 #[.slice (some ⟨b,off,none⟩) n lc,.string sj] wr.drew (fun e w' => e = .returned (.int .i64 (findZ (l.take n) sj)) ∧ wr.drew = w') from by have h0 := find7_any (l.take n) (some ⟨b,off,none⟩) lc sj wr.drew (((HNR6.out.below B7.out).below HBD.out).take n) (by have := HLEN.out; omega); rw [HLEN.out.2.2] at h0; exact h0)
               have HFL := hid (find7_any l (some ⟨b,off,none⟩) lc sj wr.drew ((HNR6.out.below B7.out).below HBD.out) (by have := HLEN.out; omega))
               have HHV := hid (show x.hv = (decide (kd = 2) || decide (kd = 3)) from by rw [HKD.out]; rfl)
               obtain ⟨f1,hf1⟩ : ∃ q,q = findZ L sj := ⟨_,rfl⟩
               obtain ⟨f2,hf2⟩ : ∃ q,q = findZ (l.take n) sj := ⟨_,rfl⟩
               obtain ⟨f3,hf3⟩ : ∃ q,q = findZ l sj := ⟨_,rfl⟩
               have HKY : Hid (x.hv = true → fz = (decide (0 ≤ f1) || decide (0 ≤ f2))) := hid (fun hh => by rw [HKJ.out,hf1,hf2,if_pos hh])
               have HKN2 : Hid (x.hv = false → fz = (decide (0 ≤ f1) || decide (0 ≤ f3))) := hid (fun hh => by rw [HKJ.out,hf1,hf3,if_neg (by rw [hh]; simp)])
               rw [← hf1] at HFA
               rw [← hf2] at HFT
               rw [← hf3] at HFL
               clear hf1 hf2 hf3 HKJ hcL6 hnL6 hs6
               have k0 := (B7.out.cell (p := ⟨bX,0,none⟩) (World.block_lt_of_cell? w6 _ HC0.out)).trans HC0.out
               have hsl := HSL.out
               by_cases hk2 : kd = 2
               ·have HKZ2 := hid (HKY.out (by rw [HHV.out,decide_eq_true hk2]; rfl))
                subst hk2
                go_upto_region 26 with fail
                clear k0 hsl
                by_cases h1 : 0 ≤ f1
                ·have h1b : ¬ f1 < 0 := by omega
                 have HE := hid (HYJ.out (by rw [HKZ2.out,decide_eq_true h1]; rfl))
                 refine wp_region_held_drew (S := fun w' => w'.cell? ⟨r,0,none⟩ = some (.slice aL6 L.length cL6) ∧ w'.cell? ⟨g6,j,none⟩ = some (.string sj)) (by kernel_rfl) (⟨(HBD.out.cell (p := ⟨r,0,none⟩) (World.block_lt_of_cell? wr _ HCS.out.1)).trans HCS.out.1,(HBD.out.cell (p := ⟨g6,j,none⟩) (World.block_lt_of_cell? wr _ HCS.out.2)).trans HCS.out.2⟩) (fun hHeld => ?_)
                 refine wpAnyH_take (i := 0) (v := ?vri1a0) rfl (by kernel_rfl) (by kernel_rfl) (by kernel_rfl) (fun _ _ _ h => h) (Or.inl ⟨by rfl,?hyri1a0⟩) (by assumption) ?restri1a0
                 case hyri1a0 => (intro w hSw; (try dsimp only at hSw); go_simp <;> with_reducible rfl)
                 try simp only [zqT,zqZ,Act.put,zqB,zq0,zq1]
                 refine wpAnyH_take (i := 1) (v := ?vri1a1) rfl (by kernel_rfl) (by kernel_rfl) (by kernel_rfl) (fun _ _ _ h => h) (Or.inl ⟨by rfl,?hyri1a1⟩) (by assumption) ?restri1a1
                 case hyri1a1 => (intro w hSw; (try dsimp only at hSw); go_simp <;> with_reducible rfl)
                 try simp only [zqT,zqS,zqZ,Act.put,zqB,zq0,zq1]
                 refine wpAnyH_take (i := 2) (v := ?vri1a2) rfl (by kernel_rfl) (by kernel_rfl) (by kernel_rfl) (fun _ _ _ h => h) (Or.inl ⟨by rfl,?hyri1a2⟩) (by assumption) ?restri1a2
                 case hyri1a2 => (intro w hSw; (try dsimp only at hSw); go_simp <;> with_reducible rfl)
                 try simp only [zqT,zqS,zqZ,Act.put,zqB,zq0,zq1]
                 refine wpAnyH_take (i := 3) (v := ?vri1a3) rfl (by kernel_rfl) (by kernel_rfl) (by kernel_rfl) (fun _ _ _ h => h) (Or.inl ⟨by rfl,?hyri1a3⟩) (by assumption) ?restri1a3
                 case hyri1a3 => (intro w hSw; (try dsimp only at hSw); go_simp <;> with_reducible rfl)
                 try simp only [zqT,zqS,zqZ,Act.put,zqB,zq0,zq1]
                 refine wpAnyH_take (i := 4) (v := ?vri1a4) rfl (by kernel_rfl) (by kernel_rfl) (by kernel_rfl) (fun _ _ _ h => h) (Or.inl ⟨by rfl,?hyri1a4⟩) (by assumption) ?restri1a4
                 case hyri1a4 => (intro w hSw; (try dsimp only at hSw); go_simp <;> with_reducible rfl)
                 try simp only [zqT,zqS,zqZ,Act.put,zqB,zq0,zq1]
                 refine wpAnyH_take (i := 5) (v := ?vri1a5) rfl (by kernel_rfl) (by kernel_rfl) (by kernel_rfl) (fun _ _ _ h => h) (Or.inl ⟨by rfl,?hyri1a5⟩) (by assumption) ?restri1a5
                 case hyri1a5 => (intro w hSw; (try dsimp only at hSw); go_simp <;> with_reducible rfl)
                 try simp only [zqT,zqS,zqZ,Act.put,zqB,zq0,zq1]
                 refine wpAnyH_take (i := 6) (v := ?vri1a6) rfl (by kernel_rfl) (by kernel_rfl) (by kernel_rfl) (fun _ _ _ h => h) (Or.inl ⟨by rfl,?hyri1a6⟩) (by assumption) ?restri1a6
                 case hyri1a6 => (intro w hSw; (try dsimp only at hSw); go_simp <;> with_reducible rfl)
                 try simp only [zqT,zqS,zqZ,Act.put,zqB,zq0,zq1]
                 refine wpAnyH_take (i := 7) (v := ?vri1a7) rfl (by kernel_rfl) (by kernel_rfl) (by kernel_rfl) (fun _ _ _ h => h) (Or.inl ⟨by rfl,?hyri1a7⟩) (by assumption) ?restri1a7
                 case hyri1a7 => (intro w hSw; (try dsimp only at hSw); go_simp <;> with_reducible rfl)
                 try simp only [zqT,zqS,zqZ,Act.put,zqB,zq0,zq1]
                 refine wpAnyH_ready (rs := [8]) (by kernel_rfl) (by simp) ?_
                 refine AllReadyH.cons rfl (fun K hK => ?_) AllReadyH.nil
                 go_simp
                 refine HFA.out.mono ?_
                 rintro y v3 ⟨rfl,rfl⟩
                 refine hK.out _ _ (⟨(HBD.out.cell (p := ⟨r,0,none⟩) (World.block_lt_of_cell? wr _ HCS.out.1)).trans HCS.out.1,(HBD.out.cell (p := ⟨g6,j,none⟩) (World.block_lt_of_cell? wr _ HCS.out.2)).trans HCS.out.2⟩) (fun hHeld => ?_)
                 clear hK K
                 try simp only [zqT,zqS,zqZ,Act.put,zqB,zq0,zq1]
                 refine wpAnyH_take (i := 9) (v := ?vri1a9) rfl (by kernel_rfl) (by kernel_rfl) (by kernel_rfl) (fun _ _ _ h => h) (Or.inl ⟨by rfl,?hyri1a9⟩) (by assumption) ?restri1a9
                 case hyri1a9 => (intro w hSw; (try dsimp only at hSw); go_simp <;> with_reducible rfl)
                 try simp only [zqT,zqS,zqZ,Act.put,zqB,zq0,zq1]
                 refine wpAnyH_take (i := 10) (v := ?vri1a10) rfl (by kernel_rfl) (by kernel_rfl) (by kernel_rfl) (fun _ _ _ h => h) (Or.inl ⟨by rfl,?hyri1a10⟩) (by assumption) ?restri1a10
                 case hyri1a10 => (intro w hSw; (try dsimp only at hSw); go_simp <;> with_reducible rfl)
                 try simp only [zqT,zqS,zqZ,Act.put,zqB,zq0,zq1]
                 refine wpAnyH_take (i := 11) (v := undef) rfl (by kernel_rfl) (by kernel_rfl) (by kernel_rfl) (fun _ _ _ h => h) (Or.inr ⟨by rfl,rfl⟩) (by assumption) ?_
                 try simp only [zqT,zqS,zqZ,Act.put,zqB,zq0,zq1]
                 refine wpAnyH_take (i := 12) (v := undef) rfl (by kernel_rfl) (by kernel_rfl) (by kernel_rfl) (fun _ _ _ h => h) (Or.inr ⟨by rfl,rfl⟩) (by assumption) ?_
                 try simp only [zqT,zqS,zqZ,Act.put,zqB,zq0,zq1]
                 refine wpAnyH_take (i := 13) (v := undef) rfl (by kernel_rfl) (by kernel_rfl) (by kernel_rfl) (fun _ _ _ h => h) (Or.inr ⟨by rfl,rfl⟩) (by assumption) ?_
                 try simp only [zqT,zqS,zqZ,Act.put,zqB,zq0,zq1]
                 refine wpAnyH_take (i := 14) (v := undef) rfl (by kernel_rfl) (by kernel_rfl) (by kernel_rfl) (fun _ _ _ h => h) (Or.inr ⟨by rfl,rfl⟩) (by assumption) ?_
                 try simp only [zqT,zqS,zqZ,Act.put,zqB,zq0,zq1]
                 refine wpAnyH_take (i := 15) (v := undef) rfl (by kernel_rfl) (by kernel_rfl) (by kernel_rfl) (fun _ _ _ h => h) (Or.inr ⟨by rfl,rfl⟩) (by assumption) ?_
                 try simp only [zqT,zqS,zqZ,Act.put,zqB,zq0,zq1]
                 refine wpAnyH_take (i := 16) (v := undef) rfl (by kernel_rfl) (by kernel_rfl) (by kernel_rfl) (fun _ _ _ h => h) (Or.inr ⟨by rfl,rfl⟩) (by assumption) ?_
                 try simp only [zqT,zqS,zqZ,Act.put,zqB,zq0,zq1]
                 refine wpAnyH_take (i := 17) (v := undef) rfl (by kernel_rfl) (by kernel_rfl) (by kernel_rfl) (fun _ _ _ h => h) (Or.inr ⟨by rfl,rfl⟩) (by assumption) ?_
                 try simp only [zqT,zqS,zqZ,Act.put,zqB,zq0,zq1]
                 refine wpAnyH_take (i := 18) (v := ?vri1a18) rfl (by kernel_rfl) (by kernel_rfl) (by kernel_rfl) (fun _ _ _ h => h) (Or.inl ⟨by rfl,?hyri1a18⟩) (by assumption) ?restri1a18
                 case hyri1a18 => (intro w hSw; (try dsimp only at hSw); go_simp <;> with_reducible rfl)
                 try simp only [zqT,zqS,zqZ,Act.put,zqB,zq0,zq1]
                 refine wpAnyH_done (by kernel_rfl) ?_ _
                 go_wp2_with fail
                 go_roundw
                 case rel => exact ⟨j + 1,by first | rfl | (rw [hwj]; rfl),HLTJ.out,HE.out,BN.out⟩
                 case measure => first | exact less_step rfl HLTJ.out | exact less_step hwj HLTJ.out
                ·have h1b : f1 < 0 := by omega
                 refine wp_region_held_drew (S := fun w' => w'.cell? ⟨r,0,none⟩ = some (.slice aL6 L.length cL6) ∧ w'.cell? ⟨g6,j,none⟩ = some (.string sj)) (by kernel_rfl) (⟨(HBD.out.cell (p := ⟨r,0,none⟩) (World.block_lt_of_cell? wr _ HCS.out.1)).trans HCS.out.1,(HBD.out.cell (p := ⟨g6,j,none⟩) (World.block_lt_of_cell? wr _ HCS.out.2)).trans HCS.out.2⟩) (fun hHeld => ?_)
                 refine wpAnyH_take (i := 0) (v := ?vri1b0) rfl (by kernel_rfl) (by kernel_rfl) (by kernel_rfl) (fun _ _ _ h => h) (Or.inl ⟨by rfl,?hyri1b0⟩) (by assumption) ?restri1b0
                 case hyri1b0 => (intro w hSw; (try dsimp only at hSw); go_simp <;> with_reducible rfl)
                 try simp only [zqT,zqZ,Act.put,zqB,zq0,zq1]
                 refine wpAnyH_take (i := 1) (v := ?vri1b1) rfl (by kernel_rfl) (by kernel_rfl) (by kernel_rfl) (fun _ _ _ h => h) (Or.inl ⟨by rfl,?hyri1b1⟩) (by assumption) ?restri1b1
                 case hyri1b1 => (intro w hSw; (try dsimp only at hSw); go_simp <;> with_reducible rfl)
                 try simp only [zqT,zqS,zqZ,Act.put,zqB,zq0,zq1]
                 refine wpAnyH_take (i := 2) (v := ?vri1b2) rfl (by kernel_rfl) (by kernel_rfl) (by kernel_rfl) (fun _ _ _ h => h) (Or.inl ⟨by rfl,?hyri1b2⟩) (by assumption) ?restri1b2
                 case hyri1b2 => (intro w hSw; (try dsimp only at hSw); go_simp <;> with_reducible rfl)
                 try simp only [zqT,zqS,zqZ,Act.put,zqB,zq0,zq1]
                 refine wpAnyH_take (i := 3) (v := ?vri1b3) rfl (by kernel_rfl) (by kernel_rfl) (by kernel_rfl) (fun _ _ _ h => h) (Or.inl ⟨by rfl,?hyri1b3⟩) (by assumption) ?restri1b3
                 case hyri1b3 => (intro w hSw; (try dsimp only at hSw); go_simp <;> with_reducible rfl)
                 try simp only [zqT,zqS,zqZ,Act.put,zqB,zq0,zq1]
                 refine wpAnyH_take (i := 4) (v := ?vri1b4) rfl (by kernel_rfl) (by kernel_rfl) (by kernel_rfl) (fun _ _ _ h => h) (Or.inl ⟨by rfl,?hyri1b4⟩) (by assumption) ?restri1b4
                 case hyri1b4 => (intro w hSw; (try dsimp only at hSw); go_simp <;> with_reducible rfl)
                 try simp only [zqT,zqS,zqZ,Act.put,zqB,zq0,zq1]
                 refine wpAnyH_take (i := 5) (v := ?vri1b5) rfl (by kernel_rfl) (by kernel_rfl) (by kernel_rfl) (fun _ _ _ h => h) (Or.inl ⟨by rfl,?hyri1b5⟩) (by assumption) ?restri1b5
                 case hyri1b5 => (intro w hSw; (try dsimp only at hSw); go_simp <;> with_reducible rfl)
                 try simp only [zqT,zqS,zqZ,Act.put,zqB,zq0,zq1]
                 refine wpAnyH_take (i := 6) (v := ?vri1b6) rfl (by kernel_rfl) (by kernel_rfl) (by kernel_rfl) (fun _ _ _ h => h) (Or.inl ⟨by rfl,?hyri1b6⟩) (by assumption) ?restri1b6
                 case hyri1b6 => (intro w hSw; (try dsimp only at hSw); go_simp <;> with_reducible rfl)
                 try simp only [zqT,zqS,zqZ,Act.put,zqB,zq0,zq1]
                 refine wpAnyH_take (i := 7) (v := ?vri1b7) rfl (by kernel_rfl) (by kernel_rfl) (by kernel_rfl) (fun _ _ _ h => h) (Or.inl ⟨by rfl,?hyri1b7⟩) (by assumption) ?restri1b7
                 case hyri1b7 => (intro w hSw; (try dsimp only at hSw); go_simp <;> with_reducible rfl)
                 try simp only [zqT,zqS,zqZ,Act.put,zqB,zq0,zq1]
                 refine wpAnyH_ready (rs := [8]) (by kernel_rfl) (by simp) ?_
                 refine AllReadyH.cons rfl (fun K hK => ?_) AllReadyH.nil
                 go_simp
                 refine HFA.out.mono ?_
                 rintro y v3 ⟨rfl,rfl⟩
                 refine hK.out _ _ (⟨(HBD.out.cell (p := ⟨r,0,none⟩) (World.block_lt_of_cell? wr _ HCS.out.1)).trans HCS.out.1,(HBD.out.cell (p := ⟨g6,j,none⟩) (World.block_lt_of_cell? wr _ HCS.out.2)).trans HCS.out.2⟩) (fun hHeld => ?_)
                 clear hK K
                 try simp only [zqT,zqS,zqZ,Act.put,zqB,zq0,zq1]
                 refine wpAnyH_take (i := 9) (v := ?vri1b9) rfl (by kernel_rfl) (by kernel_rfl) (by kernel_rfl) (fun _ _ _ h => h) (Or.inl ⟨by rfl,?hyri1b9⟩) (by assumption) ?restri1b9
                 case hyri1b9 => (intro w hSw; (try dsimp only at hSw); go_simp <;> with_reducible rfl)
                 try simp only [zqT,zqS,zqZ,Act.put,zqB,zq0,zq1]
                 refine wpAnyH_take (i := 10) (v := ?vri1b10) rfl (by kernel_rfl) (by kernel_rfl) (by kernel_rfl) (fun _ _ _ h => h) (Or.inl ⟨by rfl,?hyri1b10⟩) (by assumption) ?restri1b10
                 case hyri1b10 => (intro w hSw; (try dsimp only at hSw); go_simp <;> with_reducible rfl)
                 try simp only [zqT,zqS,zqZ,Act.put,zqB,zq0,zq1]
                 refine wpAnyH_take (i := 11) (v := ?vri1b11) rfl (by kernel_rfl) (by kernel_rfl) (by kernel_rfl) (fun _ _ _ h => h) (Or.inl ⟨by rfl,?hyri1b11⟩) (by assumption) ?restri1b11
                 case hyri1b11 => (intro w hSw; (try dsimp only at hSw); go_simp <;> with_reducible rfl)
                 try simp only [zqT,zqS,zqZ,Act.put,zqB,zq0,zq1]
                 refine wpAnyH_take (i := 12) (v := ?vri1b12) rfl (by kernel_rfl) (by kernel_rfl) (by kernel_rfl) (fun _ _ _ h => h) (Or.inl ⟨by rfl,?hyri1b12⟩) (by assumption) ?restri1b12
                 case hyri1b12 => (intro w hSw; (try dsimp only at hSw); go_simp <;> with_reducible rfl)
                 try simp only [zqT,zqS,zqZ,Act.put,zqB,zq0,zq1]
                 refine wpAnyH_take (i := 13) (v := ?vri1b13) rfl (by kernel_rfl) (by kernel_rfl) (by kernel_rfl) (fun _ _ _ h => h) (Or.inl ⟨by rfl,?hyri1b13⟩) (by assumption) ?restri1b13
                 case hyri1b13 => (intro w hSw; (try dsimp only at hSw); go_simp <;> with_reducible rfl)
                 try simp only [zqT,zqS,zqZ,Act.put,zqB,zq0,zq1]
                 refine wpAnyH_take (i := 14) (v := ?vri1b14) rfl (by kernel_rfl) (by kernel_rfl) (by kernel_rfl) (fun _ _ _ h => h) (Or.inl ⟨by rfl,?hyri1b14⟩) (by assumption) ?restri1b14
                 case hyri1b14 => (intro w hSw; (try dsimp only at hSw); go_simp <;> with_reducible rfl)
                 try simp only [zqT,zqS,zqZ,Act.put,zqB,zq0,zq1]
                 refine wpAnyH_take (i := 15) (v := ?vri1b15) rfl (by kernel_rfl) (by kernel_rfl) (by kernel_rfl) (fun _ _ _ h => h) (Or.inl ⟨by rfl,?hyri1b15⟩) (by assumption) ?restri1b15
                 case hyri1b15 => (intro w hSw; (try dsimp only at hSw); go_simp <;> with_reducible rfl)
                 try simp only [zqT,zqS,zqZ,Act.put,zqB,zq0,zq1]
                 refine wpAnyH_ready (rs := [16]) (by kernel_rfl) (by simp) ?_
                 refine AllReadyH.cons rfl (fun K hK => ?_) AllReadyH.nil
                 go_simp
                 refine HFT.out.mono ?_
                 rintro y v3 ⟨rfl,rfl⟩
                 refine hK.out _ _ (⟨(HBD.out.cell (p := ⟨r,0,none⟩) (World.block_lt_of_cell? wr _ HCS.out.1)).trans HCS.out.1,(HBD.out.cell (p := ⟨g6,j,none⟩) (World.block_lt_of_cell? wr _ HCS.out.2)).trans HCS.out.2⟩) (fun hHeld => ?_)
                 clear hK K
                 try simp only [zqT,zqS,zqZ,Act.put,zqB,zq0,zq1]
                 refine wpAnyH_take (i := 17) (v := ?vri1b17) rfl (by kernel_rfl) (by kernel_rfl) (by kernel_rfl) (fun _ _ _ h => h) (Or.inl ⟨by rfl,?hyri1b17⟩) (by assumption) ?restri1b17
                 case hyri1b17 => (intro w hSw; (try dsimp only at hSw); go_simp <;> with_reducible rfl)
                 try simp only [zqT,zqS,zqZ,Act.put,zqB,zq0,zq1]
                 refine wpAnyH_take (i := 18) (v := ?vri1b18) rfl (by kernel_rfl) (by kernel_rfl) (by kernel_rfl) (fun _ _ _ h => h) (Or.inl ⟨by rfl,?hyri1b18⟩) (by assumption) ?restri1b18
                 case hyri1b18 => (intro w hSw; (try dsimp only at hSw); go_simp <;> with_reducible rfl)
                 try simp only [zqT,zqS,zqZ,Act.put,zqB,zq0,zq1]
                 refine wpAnyH_done (by kernel_rfl) ?_ _
                 by_cases h2 : 0 ≤ f2
                 ·have h2b : decide (f2 < 0) = false := decide_eq_false (by omega)
                  have HE := hid (HYJ.out (by rw [HKZ2.out,decide_eq_true h2,Bool.or_true]))
                  go_wp2_with fail
                  go_roundw
                  case rel => exact ⟨j + 1,by first | rfl | (rw [hwj]; rfl),HLTJ.out,HE.out,BN.out⟩
                  case measure => first | exact less_step rfl HLTJ.out | exact less_step hwj HLTJ.out
                 ·have h2b : decide (f2 < 0) = true := decide_eq_true (by omega)
                  have HE := hid (HNJ.out (by rw [HKZ2.out,decide_eq_false h1,decide_eq_false h2]; rfl))
                  have HB9 := hid (Trm.go HBW6.out BN.out)
                  go_wp2_with fail
                  go_ret
                  exact ⟨ret_int HE.out,HB9.out⟩
               ·have e2 : (kd == 2) = false := by simpa using hk2
                by_cases hk3 : kd = 3
                ·have HKZ2 := hid (HKY.out (by rw [HHV.out,decide_eq_true hk3,Bool.or_true]))
                 subst hk3
                 clear hk2
                 go_upto_region 26 with fail
                 clear k0 hsl
                 by_cases h1 : 0 ≤ f1
                 ·have h1b : ¬ f1 < 0 := by omega
                  have HE := hid (HYJ.out (by rw [HKZ2.out,decide_eq_true h1]; rfl))
                  refine wp_region_held_drew (S := fun w' => w'.cell? ⟨r,0,none⟩ = some (.slice aL6 L.length cL6) ∧ w'.cell? ⟨g6,j,none⟩ = some (.string sj)) (by kernel_rfl) (⟨(HBD.out.cell (p := ⟨r,0,none⟩) (World.block_lt_of_cell? wr _ HCS.out.1)).trans HCS.out.1,(HBD.out.cell (p := ⟨g6,j,none⟩) (World.block_lt_of_cell? wr _ HCS.out.2)).trans HCS.out.2⟩) (fun hHeld => ?_)
                  refine wpAnyH_take (i := 0) (v := ?vri2a0) rfl (by kernel_rfl) (by kernel_rfl) (by kernel_rfl) (fun _ _ _ h => h) (Or.inl ⟨by rfl,?hyri2a0⟩) (by assumption) ?restri2a0
                  case hyri2a0 => (intro w hSw; (try dsimp only at hSw); go_simp <;> with_reducible rfl)
                  try simp only [zqT,zqZ,Act.put,zqB,zq0,zq1]
                  refine wpAnyH_take (i := 1) (v := ?vri2a1) rfl (by kernel_rfl) (by kernel_rfl) (by kernel_rfl) (fun _ _ _ h => h) (Or.inl ⟨by rfl,?hyri2a1⟩) (by assumption) ?restri2a1
                  case hyri2a1 => (intro w hSw; (try dsimp only at hSw); go_simp <;> with_reducible rfl)
                  try simp only [zqT,zqS,zqZ,Act.put,zqB,zq0,zq1]
                  refine wpAnyH_take (i := 2) (v := ?vri2a2) rfl (by kernel_rfl) (by kernel_rfl) (by kernel_rfl) (fun _ _ _ h => h) (Or.inl ⟨by rfl,?hyri2a2⟩) (by assumption) ?restri2a2
                  case hyri2a2 => (intro w hSw; (try dsimp only at hSw); go_simp <;> with_reducible rfl)
                  try simp only [zqT,zqS,zqZ,Act.put,zqB,zq0,zq1]
                  refine wpAnyH_take (i := 3) (v := ?vri2a3) rfl (by kernel_rfl) (by kernel_rfl) (by kernel_rfl) (fun _ _ _ h => h) (Or.inl ⟨by rfl,?hyri2a3⟩) (by assumption) ?restri2a3
                  case hyri2a3 => (intro w hSw; (try dsimp only at hSw); go_simp <;> with_reducible rfl)
                  try simp only [zqT,zqS,zqZ,Act.put,zqB,zq0,zq1]
                  refine wpAnyH_take (i := 4) (v := ?vri2a4) rfl (by kernel_rfl) (by kernel_rfl) (by kernel_rfl) (fun _ _ _ h => h) (Or.inl ⟨by rfl,?hyri2a4⟩) (by assumption) ?restri2a4
                  case hyri2a4 => (intro w hSw; (try dsimp only at hSw); go_simp <;> with_reducible rfl)
                  try simp only [zqT,zqS,zqZ,Act.put,zqB,zq0,zq1]
                  refine wpAnyH_take (i := 5) (v := ?vri2a5) rfl (by kernel_rfl) (by kernel_rfl) (by kernel_rfl) (fun _ _ _ h => h) (Or.inl ⟨by rfl,?hyri2a5⟩) (by assumption) ?restri2a5
                  case hyri2a5 => (intro w hSw; (try dsimp only at hSw); go_simp <;> with_reducible rfl)
                  try simp only [zqT,zqS,zqZ,Act.put,zqB,zq0,zq1]
                  refine wpAnyH_take (i := 6) (v := ?vri2a6) rfl (by kernel_rfl) (by kernel_rfl) (by kernel_rfl) (fun _ _ _ h => h) (Or.inl ⟨by rfl,?hyri2a6⟩) (by assumption) ?restri2a6
                  case hyri2a6 => (intro w hSw; (try dsimp only at hSw); go_simp <;> with_reducible rfl)
                  try simp only [zqT,zqS,zqZ,Act.put,zqB,zq0,zq1]
                  refine wpAnyH_take (i := 7) (v := ?vri2a7) rfl (by kernel_rfl) (by kernel_rfl) (by kernel_rfl) (fun _ _ _ h => h) (Or.inl ⟨by rfl,?hyri2a7⟩) (by assumption) ?restri2a7
                  case hyri2a7 => (intro w hSw; (try dsimp only at hSw); go_simp <;> with_reducible rfl)
                  try simp only [zqT,zqS,zqZ,Act.put,zqB,zq0,zq1]
                  refine wpAnyH_ready (rs := [8]) (by kernel_rfl) (by simp) ?_
                  refine AllReadyH.cons rfl (fun K hK => ?_) AllReadyH.nil
                  go_simp
                  refine HFA.out.mono ?_
                  rintro y v3 ⟨rfl,rfl⟩
                  refine hK.out _ _ (⟨(HBD.out.cell (p := ⟨r,0,none⟩) (World.block_lt_of_cell? wr _ HCS.out.1)).trans HCS.out.1,(HBD.out.cell (p := ⟨g6,j,none⟩) (World.block_lt_of_cell? wr _ HCS.out.2)).trans HCS.out.2⟩) (fun hHeld => ?_)
                  clear hK K
                  try simp only [zqT,zqS,zqZ,Act.put,zqB,zq0,zq1]
                  refine wpAnyH_take (i := 9) (v := ?vri2a9) rfl (by kernel_rfl) (by kernel_rfl) (by kernel_rfl) (fun _ _ _ h => h) (Or.inl ⟨by rfl,?hyri2a9⟩) (by assumption) ?restri2a9
                  case hyri2a9 => (intro w hSw; (try dsimp only at hSw); go_simp <;> with_reducible rfl)
                  try simp only [zqT,zqS,zqZ,Act.put,zqB,zq0,zq1]
                  refine wpAnyH_take (i := 10) (v := ?vri2a10) rfl (by kernel_rfl) (by kernel_rfl) (by kernel_rfl) (fun _ _ _ h => h) (Or.inl ⟨by rfl,?hyri2a10⟩) (by assumption) ?restri2a10
                  case hyri2a10 => (intro w hSw; (try dsimp only at hSw); go_simp <;> with_reducible rfl)
                  try simp only [zqT,zqS,zqZ,Act.put,zqB,zq0,zq1]
                  refine wpAnyH_take (i := 11) (v := undef) rfl (by kernel_rfl) (by kernel_rfl) (by kernel_rfl) (fun _ _ _ h => h) (Or.inr ⟨by rfl,rfl⟩) (by assumption) ?_
                  try simp only [zqT,zqS,zqZ,Act.put,zqB,zq0,zq1]
                  refine wpAnyH_take (i := 12) (v := undef) rfl (by kernel_rfl) (by kernel_rfl) (by kernel_rfl) (fun _ _ _ h => h) (Or.inr ⟨by rfl,rfl⟩) (by assumption) ?_
                  try simp only [zqT,zqS,zqZ,Act.put,zqB,zq0,zq1]
                  refine wpAnyH_take (i := 13) (v := undef) rfl (by kernel_rfl) (by kernel_rfl) (by kernel_rfl) (fun _ _ _ h => h) (Or.inr ⟨by rfl,rfl⟩) (by assumption) ?_
                  try simp only [zqT,zqS,zqZ,Act.put,zqB,zq0,zq1]
                  refine wpAnyH_take (i := 14) (v := undef) rfl (by kernel_rfl) (by kernel_rfl) (by kernel_rfl) (fun _ _ _ h => h) (Or.inr ⟨by rfl,rfl⟩) (by assumption) ?_
                  try simp only [zqT,zqS,zqZ,Act.put,zqB,zq0,zq1]
                  refine wpAnyH_take (i := 15) (v := undef) rfl (by kernel_rfl) (by kernel_rfl) (by kernel_rfl) (fun _ _ _ h => h) (Or.inr ⟨by rfl,rfl⟩) (by assumption) ?_
                  try simp only [zqT,zqS,zqZ,Act.put,zqB,zq0,zq1]
                  refine wpAnyH_take (i := 16) (v := undef) rfl (by kernel_rfl) (by kernel_rfl) (by kernel_rfl) (fun _ _ _ h => h) (Or.inr ⟨by rfl,rfl⟩) (by assumption) ?_
                  try simp only [zqT,zqS,zqZ,Act.put,zqB,zq0,zq1]
                  refine wpAnyH_take (i := 17) (v := undef) rfl (by kernel_rfl) (by kernel_rfl) (by kernel_rfl) (fun _ _ _ h => h) (Or.inr ⟨by rfl,rfl⟩) (by assumption) ?_
                  try simp only [zqT,zqS,zqZ,Act.put,zqB,zq0,zq1]
                  refine wpAnyH_take (i := 18) (v := ?vri2a18) rfl (by kernel_rfl) (by kernel_rfl) (by kernel_rfl) (fun _ _ _ h => h) (Or.inl ⟨by rfl,?hyri2a18⟩) (by assumption) ?restri2a18
                  case hyri2a18 => (intro w hSw; (try dsimp only at hSw); go_simp <;> with_reducible rfl)
                  try simp only [zqT,zqS,zqZ,Act.put,zqB,zq0,zq1]
                  refine wpAnyH_done (by kernel_rfl) ?_ _
                  go_wp2_with fail
                  go_roundw
                  case rel => exact ⟨j + 1,by first | rfl | (rw [hwj]; rfl),HLTJ.out,HE.out,BN.out⟩
                  case measure => first | exact less_step rfl HLTJ.out | exact less_step hwj HLTJ.out
                 ·have h1b : f1 < 0 := by omega
                  refine wp_region_held_drew (S := fun w' => w'.cell? ⟨r,0,none⟩ = some (.slice aL6 L.length cL6) ∧ w'.cell? ⟨g6,j,none⟩ = some (.string sj)) (by kernel_rfl) (⟨(HBD.out.cell (p := ⟨r,0,none⟩) (World.block_lt_of_cell? wr _ HCS.out.1)).trans HCS.out.1,(HBD.out.cell (p := ⟨g6,j,none⟩) (World.block_lt_of_cell? wr _ HCS.out.2)).trans HCS.out.2⟩) (fun hHeld => ?_)
                  refine wpAnyH_take (i := 0) (v := ?vri2b0) rfl (by kernel_rfl) (by kernel_rfl) (by kernel_rfl) (fun _ _ _ h => h) (Or.inl ⟨by rfl,?hyri2b0⟩) (by assumption) ?restri2b0
                  case hyri2b0 => (intro w hSw; (try dsimp only at hSw); go_simp <;> with_reducible rfl)
                  try simp only [zqT,zqZ,Act.put,zqB,zq0,zq1]
                  refine wpAnyH_take (i := 1) (v := ?vri2b1) rfl (by kernel_rfl) (by kernel_rfl) (by kernel_rfl) (fun _ _ _ h => h) (Or.inl ⟨by rfl,?hyri2b1⟩) (by assumption) ?restri2b1
                  case hyri2b1 => (intro w hSw; (try dsimp only at hSw); go_simp <;> with_reducible rfl)
                  try simp only [zqT,zqS,zqZ,Act.put,zqB,zq0,zq1]
                  refine wpAnyH_take (i := 2) (v := ?vri2b2) rfl (by kernel_rfl) (by kernel_rfl) (by kernel_rfl) (fun _ _ _ h => h) (Or.inl ⟨by rfl,?hyri2b2⟩) (by assumption) ?restri2b2
                  case hyri2b2 => (intro w hSw; (try dsimp only at hSw); go_simp <;> with_reducible rfl)
                  try simp only [zqT,zqS,zqZ,Act.put,zqB,zq0,zq1]
                  refine wpAnyH_take (i := 3) (v := ?vri2b3) rfl (by kernel_rfl) (by kernel_rfl) (by kernel_rfl) (fun _ _ _ h => h) (Or.inl ⟨by rfl,?hyri2b3⟩) (by assumption) ?restri2b3
                  case hyri2b3 => (intro w hSw; (try dsimp only at hSw); go_simp <;> with_reducible rfl)
                  try simp only [zqT,zqS,zqZ,Act.put,zqB,zq0,zq1]
                  refine wpAnyH_take (i := 4) (v := ?vri2b4) rfl (by kernel_rfl) (by kernel_rfl) (by kernel_rfl) (fun _ _ _ h => h) (Or.inl ⟨by rfl,?hyri2b4⟩) (by assumption) ?restri2b4
                  case hyri2b4 => (intro w hSw; (try dsimp only at hSw); go_simp <;> with_reducible rfl)
                  try simp only [zqT,zqS,zqZ,Act.put,zqB,zq0,zq1]
                  refine wpAnyH_take (i := 5) (v := ?vri2b5) rfl (by kernel_rfl) (by kernel_rfl) (by kernel_rfl) (fun _ _ _ h => h) (Or.inl ⟨by rfl,?hyri2b5⟩) (by assumption) ?restri2b5
                  case hyri2b5 => (intro w hSw; (try dsimp only at hSw); go_simp <;> with_reducible rfl)
                  try simp only [zqT,zqS,zqZ,Act.put,zqB,zq0,zq1]
                  refine wpAnyH_take (i := 6) (v := ?vri2b6) rfl (by kernel_rfl) (by kernel_rfl) (by kernel_rfl) (fun _ _ _ h => h) (Or.inl ⟨by rfl,?hyri2b6⟩) (by assumption) ?restri2b6
                  case hyri2b6 => (intro w hSw; (try dsimp only at hSw); go_simp <;> with_reducible rfl)
                  try simp only [zqT,zqS,zqZ,Act.put,zqB,zq0,zq1]
                  refine wpAnyH_take (i := 7) (v := ?vri2b7) rfl (by kernel_rfl) (by kernel_rfl) (by kernel_rfl) (fun _ _ _ h => h) (Or.inl ⟨by rfl,?hyri2b7⟩) (by assumption) ?restri2b7
                  case hyri2b7 => (intro w hSw; (try dsimp only at hSw); go_simp <;> with_reducible rfl)
                  try simp only [zqT,zqS,zqZ,Act.put,zqB,zq0,zq1]
                  refine wpAnyH_ready (rs := [8]) (by kernel_rfl) (by simp) ?_
                  refine AllReadyH.cons rfl (fun K hK => ?_) AllReadyH.nil
                  go_simp
                  refine HFA.out.mono ?_
                  rintro y v3 ⟨rfl,rfl⟩
                  refine hK.out _ _ (⟨(HBD.out.cell (p := ⟨r,0,none⟩) (World.block_lt_of_cell? wr _ HCS.out.1)).trans HCS.out.1,(HBD.out.cell (p := ⟨g6,j,none⟩) (World.block_lt_of_cell? wr _ HCS.out.2)).trans HCS.out.2⟩) (fun hHeld => ?_)
                  clear hK K
                  try simp only [zqT,zqS,zqZ,Act.put,zqB,zq0,zq1]
                  refine wpAnyH_take (i := 9) (v := ?vri2b9) rfl (by kernel_rfl) (by kernel_rfl) (by kernel_rfl) (fun _ _ _ h => h) (Or.inl ⟨by rfl,?hyri2b9⟩) (by assumption) ?restri2b9
                  case hyri2b9 => (intro w hSw; (try dsimp only at hSw); go_simp <;> with_reducible rfl)
                  try simp only [zqT,zqS,zqZ,Act.put,zqB,zq0,zq1]
                  refine wpAnyH_take (i := 10) (v := ?vri2b10) rfl (by kernel_rfl) (by kernel_rfl) (by kernel_rfl) (fun _ _ _ h => h) (Or.inl ⟨by rfl,?hyri2b10⟩) (by assumption) ?restri2b10
                  case hyri2b10 => (intro w hSw; (try dsimp only at hSw); go_simp <;> with_reducible rfl)
                  try simp only [zqT,zqS,zqZ,Act.put,zqB,zq0,zq1]
                  refine wpAnyH_take (i := 11) (v := ?vri2b11) rfl (by kernel_rfl) (by kernel_rfl) (by kernel_rfl) (fun _ _ _ h => h) (Or.inl ⟨by rfl,?hyri2b11⟩) (by assumption) ?restri2b11
                  case hyri2b11 => (intro w hSw; (try dsimp only at hSw); go_simp <;> with_reducible rfl)
                  try simp only [zqT,zqS,zqZ,Act.put,zqB,zq0,zq1]
                  refine wpAnyH_take (i := 12) (v := ?vri2b12) rfl (by kernel_rfl) (by kernel_rfl) (by kernel_rfl) (fun _ _ _ h => h) (Or.inl ⟨by rfl,?hyri2b12⟩) (by assumption) ?restri2b12
                  case hyri2b12 => (intro w hSw; (try dsimp only at hSw); go_simp <;> with_reducible rfl)
                  try simp only [zqT,zqS,zqZ,Act.put,zqB,zq0,zq1]
                  refine wpAnyH_take (i := 13) (v := ?vri2b13) rfl (by kernel_rfl) (by kernel_rfl) (by kernel_rfl) (fun _ _ _ h => h) (Or.inl ⟨by rfl,?hyri2b13⟩) (by assumption) ?restri2b13
                  case hyri2b13 => (intro w hSw; (try dsimp only at hSw); go_simp <;> with_reducible rfl)
                  try simp only [zqT,zqS,zqZ,Act.put,zqB,zq0,zq1]
                  refine wpAnyH_take (i := 14) (v := ?vri2b14) rfl (by kernel_rfl) (by kernel_rfl) (by kernel_rfl) (fun _ _ _ h => h) (Or.inl ⟨by rfl,?hyri2b14⟩) (by assumption) ?restri2b14
                  case hyri2b14 => (intro w hSw; (try dsimp only at hSw); go_simp <;> with_reducible rfl)
                  try simp only [zqT,zqS,zqZ,Act.put,zqB,zq0,zq1]
                  refine wpAnyH_take (i := 15) (v := ?vri2b15) rfl (by kernel_rfl) (by kernel_rfl) (by kernel_rfl) (fun _ _ _ h => h) (Or.inl ⟨by rfl,?hyri2b15⟩) (by assumption) ?restri2b15
                  case hyri2b15 => (intro w hSw; (try dsimp only at hSw); go_simp <;> with_reducible rfl)
                  try simp only [zqT,zqS,zqZ,Act.put,zqB,zq0,zq1]
                  refine wpAnyH_ready (rs := [16]) (by kernel_rfl) (by simp) ?_
                  refine AllReadyH.cons rfl (fun K hK => ?_) AllReadyH.nil
                  go_simp
                  refine HFT.out.mono ?_
                  rintro y v3 ⟨rfl,rfl⟩
                  refine hK.out _ _ (⟨(HBD.out.cell (p := ⟨r,0,none⟩) (World.block_lt_of_cell? wr _ HCS.out.1)).trans HCS.out.1,(HBD.out.cell (p := ⟨g6,j,none⟩) (World.block_lt_of_cell? wr _ HCS.out.2)).trans HCS.out.2⟩) (fun hHeld => ?_)
                  clear hK K
                  try simp only [zqT,zqS,zqZ,Act.put,zqB,zq0,zq1]
                  refine wpAnyH_take (i := 17) (v := ?vri2b17) rfl (by kernel_rfl) (by kernel_rfl) (by kernel_rfl) (fun _ _ _ h => h) (Or.inl ⟨by rfl,?hyri2b17⟩) (by assumption) ?restri2b17
                  case hyri2b17 => (intro w hSw; (try dsimp only at hSw); go_simp <;> with_reducible rfl)
                  try simp only [zqT,zqS,zqZ,Act.put,zqB,zq0,zq1]
                  refine wpAnyH_take (i := 18) (v := ?vri2b18) rfl (by kernel_rfl) (by kernel_rfl) (by kernel_rfl) (fun _ _ _ h => h) (Or.inl ⟨by rfl,?hyri2b18⟩) (by assumption) ?restri2b18
                  case hyri2b18 => (intro w hSw; (try dsimp only at hSw); go_simp <;> with_reducible rfl)
                  try simp only [zqT,zqS,zqZ,Act.put,zqB,zq0,zq1]
                  refine wpAnyH_done (by kernel_rfl) ?_ _
                  by_cases h2 : 0 ≤ f2
                  ·have h2b : decide (f2 < 0) = false := decide_eq_false (by omega)
                   have HE := hid (HYJ.out (by rw [HKZ2.out,decide_eq_true h2,Bool.or_true]))
                   go_wp2_with fail
                   go_roundw
                   case rel => exact ⟨j + 1,by first | rfl | (rw [hwj]; rfl),HLTJ.out,HE.out,BN.out⟩
                   case measure => first | exact less_step rfl HLTJ.out | exact less_step hwj HLTJ.out
                  ·have h2b : decide (f2 < 0) = true := decide_eq_true (by omega)
                   have HE := hid (HNJ.out (by rw [HKZ2.out,decide_eq_false h1,decide_eq_false h2]; rfl))
                   have HB9 := hid (Trm.go HBW6.out BN.out)
                   go_wp2_with fail
                   go_ret
                   exact ⟨ret_int HE.out,HB9.out⟩
                ·have e3 : (kd == 3) = false := by simpa using hk3
                 have HKZ2 := hid (HKN2.out (by rw [HHV.out,decide_eq_false hk2,decide_eq_false hk3]; rfl))
                 clear hk2 hk3
                 go_upto_region 26 with fail
                 clear k0 hsl
                 by_cases h1 : 0 ≤ f1
                 ·have h1b : ¬ f1 < 0 := by omega
                  have HE := hid (HYJ.out (by rw [HKZ2.out,decide_eq_true h1]; rfl))
                  refine wp_region_held_drew (S := fun w' => w'.cell? ⟨r,0,none⟩ = some (.slice aL6 L.length cL6) ∧ w'.cell? ⟨g6,j,none⟩ = some (.string sj)) (by kernel_rfl) (⟨(HBD.out.cell (p := ⟨r,0,none⟩) (World.block_lt_of_cell? wr _ HCS.out.1)).trans HCS.out.1,(HBD.out.cell (p := ⟨g6,j,none⟩) (World.block_lt_of_cell? wr _ HCS.out.2)).trans HCS.out.2⟩) (fun hHeld => ?_)
                  refine wpAnyH_take (i := 0) (v := ?vri3a0) rfl (by kernel_rfl) (by kernel_rfl) (by kernel_rfl) (fun _ _ _ h => h) (Or.inl ⟨by rfl,?hyri3a0⟩) (by assumption) ?restri3a0
                  case hyri3a0 => (intro w hSw; (try dsimp only at hSw); go_simp <;> with_reducible rfl)
                  try simp only [zqT,zqZ,Act.put,zqB,zq0,zq1]
                  refine wpAnyH_take (i := 1) (v := ?vri3a1) rfl (by kernel_rfl) (by kernel_rfl) (by kernel_rfl) (fun _ _ _ h => h) (Or.inl ⟨by rfl,?hyri3a1⟩) (by assumption) ?restri3a1
                  case hyri3a1 => (intro w hSw; (try dsimp only at hSw); go_simp <;> with_reducible rfl)
                  try simp only [zqT,zqS,zqZ,Act.put,zqB,zq0,zq1]
                  refine wpAnyH_take (i := 2) (v := ?vri3a2) rfl (by kernel_rfl) (by kernel_rfl) (by kernel_rfl) (fun _ _ _ h => h) (Or.inl ⟨by rfl,?hyri3a2⟩) (by assumption) ?restri3a2
                  case hyri3a2 => (intro w hSw; (try dsimp only at hSw); go_simp <;> with_reducible rfl)
                  try simp only [zqT,zqS,zqZ,Act.put,zqB,zq0,zq1]
                  refine wpAnyH_take (i := 3) (v := ?vri3a3) rfl (by kernel_rfl) (by kernel_rfl) (by kernel_rfl) (fun _ _ _ h => h) (Or.inl ⟨by rfl,?hyri3a3⟩) (by assumption) ?restri3a3
                  case hyri3a3 => (intro w hSw; (try dsimp only at hSw); go_simp <;> with_reducible rfl)
                  try simp only [zqT,zqS,zqZ,Act.put,zqB,zq0,zq1]
                  refine wpAnyH_take (i := 4) (v := ?vri3a4) rfl (by kernel_rfl) (by kernel_rfl) (by kernel_rfl) (fun _ _ _ h => h) (Or.inl ⟨by rfl,?hyri3a4⟩) (by assumption) ?restri3a4
                  case hyri3a4 => (intro w hSw; (try dsimp only at hSw); go_simp <;> with_reducible rfl)
                  try simp only [zqT,zqS,zqZ,Act.put,zqB,zq0,zq1]
                  refine wpAnyH_take (i := 5) (v := ?vri3a5) rfl (by kernel_rfl) (by kernel_rfl) (by kernel_rfl) (fun _ _ _ h => h) (Or.inl ⟨by rfl,?hyri3a5⟩) (by assumption) ?restri3a5
                  case hyri3a5 => (intro w hSw; (try dsimp only at hSw); go_simp <;> with_reducible rfl)
                  try simp only [zqT,zqS,zqZ,Act.put,zqB,zq0,zq1]
                  refine wpAnyH_take (i := 6) (v := ?vri3a6) rfl (by kernel_rfl) (by kernel_rfl) (by kernel_rfl) (fun _ _ _ h => h) (Or.inl ⟨by rfl,?hyri3a6⟩) (by assumption) ?restri3a6
                  case hyri3a6 => (intro w hSw; (try dsimp only at hSw); go_simp <;> with_reducible rfl)
                  try simp only [zqT,zqS,zqZ,Act.put,zqB,zq0,zq1]
                  refine wpAnyH_take (i := 7) (v := ?vri3a7) rfl (by kernel_rfl) (by kernel_rfl) (by kernel_rfl) (fun _ _ _ h => h) (Or.inl ⟨by rfl,?hyri3a7⟩) (by assumption) ?restri3a7
                  case hyri3a7 => (intro w hSw; (try dsimp only at hSw); go_simp <;> with_reducible rfl)
                  try simp only [zqT,zqS,zqZ,Act.put,zqB,zq0,zq1]
                  refine wpAnyH_ready (rs := [8]) (by kernel_rfl) (by simp) ?_
                  refine AllReadyH.cons rfl (fun K hK => ?_) AllReadyH.nil
                  go_simp
                  refine HFA.out.mono ?_
                  rintro y v3 ⟨rfl,rfl⟩
                  refine hK.out _ _ (⟨(HBD.out.cell (p := ⟨r,0,none⟩) (World.block_lt_of_cell? wr _ HCS.out.1)).trans HCS.out.1,(HBD.out.cell (p := ⟨g6,j,none⟩) (World.block_lt_of_cell? wr _ HCS.out.2)).trans HCS.out.2⟩) (fun hHeld => ?_)
                  clear hK K
                  try simp only [zqT,zqS,zqZ,Act.put,zqB,zq0,zq1]
                  refine wpAnyH_take (i := 9) (v := ?vri3a9) rfl (by kernel_rfl) (by kernel_rfl) (by kernel_rfl) (fun _ _ _ h => h) (Or.inl ⟨by rfl,?hyri3a9⟩) (by assumption) ?restri3a9
                  case hyri3a9 => (intro w hSw; (try dsimp only at hSw); go_simp <;> with_reducible rfl)
                  try simp only [zqT,zqS,zqZ,Act.put,zqB,zq0,zq1]
                  refine wpAnyH_take (i := 10) (v := ?vri3a10) rfl (by kernel_rfl) (by kernel_rfl) (by kernel_rfl) (fun _ _ _ h => h) (Or.inl ⟨by rfl,?hyri3a10⟩) (by assumption) ?restri3a10
                  case hyri3a10 => (intro w hSw; (try dsimp only at hSw); go_simp <;> with_reducible rfl)
                  try simp only [zqT,zqS,zqZ,Act.put,zqB,zq0,zq1]
                  refine wpAnyH_take (i := 11) (v := undef) rfl (by kernel_rfl) (by kernel_rfl) (by kernel_rfl) (fun _ _ _ h => h) (Or.inr ⟨by rfl,rfl⟩) (by assumption) ?_
                  try simp only [zqT,zqS,zqZ,Act.put,zqB,zq0,zq1]
                  refine wpAnyH_take (i := 12) (v := undef) rfl (by kernel_rfl) (by kernel_rfl) (by kernel_rfl) (fun _ _ _ h => h) (Or.inr ⟨by rfl,rfl⟩) (by assumption) ?_
                  try simp only [zqT,zqS,zqZ,Act.put,zqB,zq0,zq1]
                  refine wpAnyH_take (i := 13) (v := undef) rfl (by kernel_rfl) (by kernel_rfl) (by kernel_rfl) (fun _ _ _ h => h) (Or.inr ⟨by rfl,rfl⟩) (by assumption) ?_
                  try simp only [zqT,zqS,zqZ,Act.put,zqB,zq0,zq1]
                  refine wpAnyH_take (i := 14) (v := undef) rfl (by kernel_rfl) (by kernel_rfl) (by kernel_rfl) (fun _ _ _ h => h) (Or.inr ⟨by rfl,rfl⟩) (by assumption) ?_
                  try simp only [zqT,zqS,zqZ,Act.put,zqB,zq0,zq1]
                  refine wpAnyH_take (i := 15) (v := undef) rfl (by kernel_rfl) (by kernel_rfl) (by kernel_rfl) (fun _ _ _ h => h) (Or.inr ⟨by rfl,rfl⟩) (by assumption) ?_
                  try simp only [zqT,zqS,zqZ,Act.put,zqB,zq0,zq1]
                  refine wpAnyH_take (i := 16) (v := undef) rfl (by kernel_rfl) (by kernel_rfl) (by kernel_rfl) (fun _ _ _ h => h) (Or.inr ⟨by rfl,rfl⟩) (by assumption) ?_
                  try simp only [zqT,zqS,zqZ,Act.put,zqB,zq0,zq1]
                  refine wpAnyH_take (i := 17) (v := undef) rfl (by kernel_rfl) (by kernel_rfl) (by kernel_rfl) (fun _ _ _ h => h) (Or.inr ⟨by rfl,rfl⟩) (by assumption) ?_
                  try simp only [zqT,zqS,zqZ,Act.put,zqB,zq0,zq1]
                  refine wpAnyH_take (i := 18) (v := ?vri3a18) rfl (by kernel_rfl) (by kernel_rfl) (by kernel_rfl) (fun _ _ _ h => h) (Or.inl ⟨by rfl,?hyri3a18⟩) (by assumption) ?restri3a18
                  case hyri3a18 => (intro w hSw; (try dsimp only at hSw); go_simp <;> with_reducible rfl)
                  try simp only [zqT,zqS,zqZ,Act.put,zqB,zq0,zq1]
                  refine wpAnyH_done (by kernel_rfl) ?_ _
                  go_wp2_with fail
                  go_roundw
                  case rel => exact ⟨j + 1,by first | rfl | (rw [hwj]; rfl),HLTJ.out,HE.out,BN.out⟩
                  case measure => first | exact less_step rfl HLTJ.out | exact less_step hwj HLTJ.out
                 ·have h1b : f1 < 0 := by omega
                  refine wp_region_held_drew (S := fun w' => w'.cell? ⟨r,0,none⟩ = some (.slice aL6 L.length cL6) ∧ w'.cell? ⟨g6,j,none⟩ = some (.string sj)) (by kernel_rfl) (⟨(HBD.out.cell (p := ⟨r,0,none⟩) (World.block_lt_of_cell? wr _ HCS.out.1)).trans HCS.out.1,(HBD.out.cell (p := ⟨g6,j,none⟩) (World.block_lt_of_cell? wr _ HCS.out.2)).trans HCS.out.2⟩) (fun hHeld => ?_)
                  refine wpAnyH_take (i := 0) (v := ?vri3b0) rfl (by kernel_rfl) (by kernel_rfl) (by kernel_rfl) (fun _ _ _ h => h) (Or.inl ⟨by rfl,?hyri3b0⟩) (by assumption) ?restri3b0
                  case hyri3b0 => (intro w hSw; (try dsimp only at hSw); go_simp <;> with_reducible rfl)
                  try simp only [zqT,zqZ,Act.put,zqB,zq0,zq1]
                  refine wpAnyH_take (i := 1) (v := ?vri3b1) rfl (by kernel_rfl) (by kernel_rfl) (by kernel_rfl) (fun _ _ _ h => h) (Or.inl ⟨by rfl,?hyri3b1⟩) (by assumption) ?restri3b1
                  case hyri3b1 => (intro w hSw; (try dsimp only at hSw); go_simp <;> with_reducible rfl)
                  try simp only [zqT,zqS,zqZ,Act.put,zqB,zq0,zq1]
                  refine wpAnyH_take (i := 2) (v := ?vri3b2) rfl (by kernel_rfl) (by kernel_rfl) (by kernel_rfl) (fun _ _ _ h => h) (Or.inl ⟨by rfl,?hyri3b2⟩) (by assumption) ?restri3b2
                  case hyri3b2 => (intro w hSw; (try dsimp only at hSw); go_simp <;> with_reducible rfl)
                  try simp only [zqT,zqS,zqZ,Act.put,zqB,zq0,zq1]
                  refine wpAnyH_take (i := 3) (v := ?vri3b3) rfl (by kernel_rfl) (by kernel_rfl) (by kernel_rfl) (fun _ _ _ h => h) (Or.inl ⟨by rfl,?hyri3b3⟩) (by assumption) ?restri3b3
                  case hyri3b3 => (intro w hSw; (try dsimp only at hSw); go_simp <;> with_reducible rfl)
                  try simp only [zqT,zqS,zqZ,Act.put,zqB,zq0,zq1]
                  refine wpAnyH_take (i := 4) (v := ?vri3b4) rfl (by kernel_rfl) (by kernel_rfl) (by kernel_rfl) (fun _ _ _ h => h) (Or.inl ⟨by rfl,?hyri3b4⟩) (by assumption) ?restri3b4
                  case hyri3b4 => (intro w hSw; (try dsimp only at hSw); go_simp <;> with_reducible rfl)
                  try simp only [zqT,zqS,zqZ,Act.put,zqB,zq0,zq1]
                  refine wpAnyH_take (i := 5) (v := ?vri3b5) rfl (by kernel_rfl) (by kernel_rfl) (by kernel_rfl) (fun _ _ _ h => h) (Or.inl ⟨by rfl,?hyri3b5⟩) (by assumption) ?restri3b5
                  case hyri3b5 => (intro w hSw; (try dsimp only at hSw); go_simp <;> with_reducible rfl)
                  try simp only [zqT,zqS,zqZ,Act.put,zqB,zq0,zq1]
                  refine wpAnyH_take (i := 6) (v := ?vri3b6) rfl (by kernel_rfl) (by kernel_rfl) (by kernel_rfl) (fun _ _ _ h => h) (Or.inl ⟨by rfl,?hyri3b6⟩) (by assumption) ?restri3b6
                  case hyri3b6 => (intro w hSw; (try dsimp only at hSw); go_simp <;> with_reducible rfl)
                  try simp only [zqT,zqS,zqZ,Act.put,zqB,zq0,zq1]
                  refine wpAnyH_take (i := 7) (v := ?vri3b7) rfl (by kernel_rfl) (by kernel_rfl) (by kernel_rfl) (fun _ _ _ h => h) (Or.inl ⟨by rfl,?hyri3b7⟩) (by assumption) ?restri3b7
                  case hyri3b7 => (intro w hSw; (try dsimp only at hSw); go_simp <;> with_reducible rfl)
                  try simp only [zqT,zqS,zqZ,Act.put,zqB,zq0,zq1]
                  refine wpAnyH_ready (rs := [8]) (by kernel_rfl) (by simp) ?_
                  refine AllReadyH.cons rfl (fun K hK => ?_) AllReadyH.nil
                  go_simp
                  refine HFA.out.mono ?_
                  rintro y v3 ⟨rfl,rfl⟩
                  refine hK.out _ _ (⟨(HBD.out.cell (p := ⟨r,0,none⟩) (World.block_lt_of_cell? wr _ HCS.out.1)).trans HCS.out.1,(HBD.out.cell (p := ⟨g6,j,none⟩) (World.block_lt_of_cell? wr _ HCS.out.2)).trans HCS.out.2⟩) (fun hHeld => ?_)
                  clear hK K
                  try simp only [zqT,zqS,zqZ,Act.put,zqB,zq0,zq1]
                  refine wpAnyH_take (i := 9) (v := ?vri3b9) rfl (by kernel_rfl) (by kernel_rfl) (by kernel_rfl) (fun _ _ _ h => h) (Or.inl ⟨by rfl,?hyri3b9⟩) (by assumption) ?restri3b9
                  case hyri3b9 => (intro w hSw; (try dsimp only at hSw); go_simp <;> with_reducible rfl)
                  try simp only [zqT,zqS,zqZ,Act.put,zqB,zq0,zq1]
                  refine wpAnyH_take (i := 10) (v := ?vri3b10) rfl (by kernel_rfl) (by kernel_rfl) (by kernel_rfl) (fun _ _ _ h => h) (Or.inl ⟨by rfl,?hyri3b10⟩) (by assumption) ?restri3b10
                  case hyri3b10 => (intro w hSw; (try dsimp only at hSw); go_simp <;> with_reducible rfl)
                  try simp only [zqT,zqS,zqZ,Act.put,zqB,zq0,zq1]
                  refine wpAnyH_take (i := 11) (v := ?vri3b11) rfl (by kernel_rfl) (by kernel_rfl) (by kernel_rfl) (fun _ _ _ h => h) (Or.inl ⟨by rfl,?hyri3b11⟩) (by assumption) ?restri3b11
                  case hyri3b11 => (intro w hSw; (try dsimp only at hSw); go_simp <;> with_reducible rfl)
                  try simp only [zqT,zqS,zqZ,Act.put,zqB,zq0,zq1]
                  refine wpAnyH_take (i := 12) (v := ?vri3b12) rfl (by kernel_rfl) (by kernel_rfl) (by kernel_rfl) (fun _ _ _ h => h) (Or.inl ⟨by rfl,?hyri3b12⟩) (by assumption) ?restri3b12
                  case hyri3b12 => (intro w hSw; (try dsimp only at hSw); go_simp <;> with_reducible rfl)
                  try simp only [zqT,zqS,zqZ,Act.put,zqB,zq0,zq1]
                  refine wpAnyH_take (i := 13) (v := ?vri3b13) rfl (by kernel_rfl) (by kernel_rfl) (by kernel_rfl) (fun _ _ _ h => h) (Or.inl ⟨by rfl,?hyri3b13⟩) (by assumption) ?restri3b13
                  case hyri3b13 => (intro w hSw; (try dsimp only at hSw); go_simp <;> with_reducible rfl)
                  try simp only [zqT,zqS,zqZ,Act.put,zqB,zq0,zq1]
                  refine wpAnyH_take (i := 14) (v := ?vri3b14) rfl (by kernel_rfl) (by kernel_rfl) (by kernel_rfl) (fun _ _ _ h => h) (Or.inl ⟨by rfl,?hyri3b14⟩) (by assumption) ?restri3b14
                  case hyri3b14 => (intro w hSw; (try dsimp only at hSw); go_simp <;> with_reducible rfl)
                  try simp only [zqT,zqS,zqZ,Act.put,zqB,zq0,zq1]
                  refine wpAnyH_take (i := 15) (v := ?vri3b15) rfl (by kernel_rfl) (by kernel_rfl) (by kernel_rfl) (fun _ _ _ h => h) (Or.inl ⟨by rfl,?hyri3b15⟩) (by assumption) ?restri3b15
                  case hyri3b15 => (intro w hSw; (try dsimp only at hSw); go_simp <;> with_reducible rfl)
                  try simp only [zqT,zqS,zqZ,Act.put,zqB,zq0,zq1]
                  refine wpAnyH_ready (rs := [16]) (by kernel_rfl) (by simp) ?_
                  refine AllReadyH.cons rfl (fun K hK => ?_) AllReadyH.nil
                  go_simp
                  refine HFL.out.mono ?_
                  rintro y v3 ⟨rfl,rfl⟩
                  refine hK.out _ _ (⟨(HBD.out.cell (p := ⟨r,0,none⟩) (World.block_lt_of_cell? wr _ HCS.out.1)).trans HCS.out.1,(HBD.out.cell (p := ⟨g6,j,none⟩) (World.block_lt_of_cell? wr _ HCS.out.2)).trans HCS.out.2⟩) (fun hHeld => ?_)
                  clear hK K
                  try simp only [zqT,zqS,zqZ,Act.put,zqB,zq0,zq1]
                  refine wpAnyH_take (i := 17) (v := ?vri3b17) rfl (by kernel_rfl) (by kernel_rfl) (by kernel_rfl) (fun _ _ _ h => h) (Or.inl ⟨by rfl,?hyri3b17⟩) (by assumption) ?restri3b17
                  case hyri3b17 => (intro w hSw; (try dsimp only at hSw); go_simp <;> with_reducible rfl)
                  try simp only [zqT,zqS,zqZ,Act.put,zqB,zq0,zq1]
                  refine wpAnyH_take (i := 18) (v := ?vri3b18) rfl (by kernel_rfl) (by kernel_rfl) (by kernel_rfl) (fun _ _ _ h => h) (Or.inl ⟨by rfl,?hyri3b18⟩) (by assumption) ?restri3b18
                  case hyri3b18 => (intro w hSw; (try dsimp only at hSw); go_simp <;> with_reducible rfl)
                  try simp only [zqT,zqS,zqZ,Act.put,zqB,zq0,zq1]
                  refine wpAnyH_done (by kernel_rfl) ?_ _
                  by_cases h2 : 0 ≤ f3
                  ·have h2b : decide (f3 < 0) = false := decide_eq_false (by omega)
                   have HE := hid (HYJ.out (by rw [HKZ2.out,decide_eq_true h2,Bool.or_true]))
                   go_wp2_with fail
                   go_roundw
                   case rel => exact ⟨j + 1,by first | rfl | (rw [hwj]; rfl),HLTJ.out,HE.out,BN.out⟩
                   case measure => first | exact less_step rfl HLTJ.out | exact less_step hwj HLTJ.out
                  ·have h2b : decide (f3 < 0) = true := decide_eq_true (by omega)
                   have HE := hid (HNJ.out (by rw [HKZ2.out,decide_eq_false h1,decide_eq_false h2]; rfl))
                   have HB9 := hid (Trm.go HBW6.out BN.out)
                   go_wp2_with fail
                   go_ret
                   exact ⟨ret_int HE.out,HB9.out⟩
              ·have HE := hid (HYE2.out (fun i hi => HALL2.out i hi (by omega)))
               go_wp2_with fail
               go_roundw
               case rel => exact ⟨k + 1,by first | rfl | (rw [hwk]; rfl),HLT.out,HE.out,Trm.go B6.out B7.out⟩
               case measure => first | exact less_step rfl HLT.out | exact less_step hwk HLT.out
            ·have HE : Hid (0 = G) := hid (by rw [HG11.out]; exact (firstE_zero fun j hj => HALL.out j hj (by omega)).symm)
             have HB9 := hid (Trm.go HBW5.out HBEL2.out)
             go_wp2_with fail
             go_ret
             exact ⟨ret_int HE.out,HB9.out⟩
end Go.Proofs.YtiekbhlnnmnklaaGreat
