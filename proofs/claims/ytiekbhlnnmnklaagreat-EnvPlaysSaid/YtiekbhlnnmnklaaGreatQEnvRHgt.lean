/-
 battenref07.Height: the greatest height of a term's names.
-/
import Derived.Lib.Hide
import Derived.Test.YtiekbhlnnmnklaaGreatQB1
import Derived.Test.YtiekbhlnnmnklaaGreatQEnvRCheck
import Derived.Test.YtiekbhlnnmnklaaGreatQB25
open Go.Lib (hid)
set_option maxRecDepth 100000
set_option maxHeartbeats 32000000
namespace Go.Proofs.YtiekbhlnnmnklaaGreat
open Go.RowKit Go.Shelf Go.Maps Lvl Trm Env
namespace Env
def Ht7 (w : World) (M : List Ent) (l : List (List UInt8)) (v i : Value) (wr : World) : Prop := ∃ k : Nat,i = .int .i64 k ∧ v = .int .i64 (maxH M (l.take k)) ∧ k ≤ l.length ∧ Below w.heap.size w wr
end Env
theorem height7_any {w : World} {r : Nat} {L : List Inf} {M : List Ent} (hM : infs M = L) (hc : RCtx w r L) (hh : ∀ x ∈ L,0 ≤ x.height ∧ x.height ≤ 4096) (t : Tm) (ht : Hd) (hin : t.In w.heap.size w ht) (hm : t.may = true) :
 Calls Tryz.prog 32 #[.pointer (some ⟨r,0,none⟩),t.val ht] w fun y w' => y = .returned (.int .i64 (maxH M t.nms)) ∧ Below w.heap.size w w' := by
 obtain ⟨WA,hWA⟩ : ∃ WA,WA = w.alloc (t.box ht) := ⟨_,rfl⟩
 have HBA := hid (show Below w.heap.size w WA from hWA ▸ below_one _ _)
 have HBX := hid (show WA.heap[w.heap.size]? = some (t.box ht) from hWA ▸ World.alloc_heap_new w _)
 have HN := hid (RefNames_any t ht WA hm (carry hin HBA.out))
 have HRS := hid (rs_few hm)
 have HRC := hid (hc.below HBA.out)
 have HMH := hid (fun (k : Nat) (hk : k < M.length) => (show 0 ≤ M[k].2.1.height ∧ M[k].2.1.height ≤ 4096 from hh _ (by rw [← hM]; exact List.mem_map_of_mem (List.getElem_mem hk))))
 have HM0 := hid (fun (l : List (List UInt8)) => maxH_le (L := M) (l := l) (M := 4096) (by omega) (fun p hp => by
  obtain ⟨k,hk,rfl⟩ := List.getElem_of_mem hp
  exact (HMH.out k hk).2))
 have HSM : Hid (maxH M (addN t.nms []) = maxH M t.nms) := hid (maxH_same HRS.out.2)
 have HLM := hid hM
 obtain ⟨G,hG⟩ : ∃ G,G = maxH M t.nms := ⟨_,rfl⟩
 rw [← hG] at HSM ⊢
 have hmax := run_max
 clear hc hin hm hG hh hM
 obtain ⟨Rw,hR⟩ : ∃ q,q = addN t.nms [] := ⟨_,rfl⟩
 rw [← hR] at HN HRS HSM
 clear hR
 unfold Tm.val Tm.vals at *
 go_enter Tryz.func32,Tryz.ntmps32
 unfold Tm.box Tm.vals at hWA
 go_upto_region 1 with fail
 rw [← hWA]
 clear hWA
 obtain ⟨x0,x1,x2,x3,x4⟩ := Tm.cells HBX.out
 go_wp2_with fail
 refine HN.out.mono ?_
 rintro y w1 ⟨v1,rfl,hnr,b1⟩
 obtain ⟨aR,cR,hv6,hpl⟩ := nr_slice hnr
 subst hv6
 have HPL := hid hpl
 have HRC1 := hid (HRC.out.below b1)
 have HB1 := hid (Trm.go HBA.out b1)
 clear hnr hpl b1 x0 x1 x2 x3 x4
 go_upto_region 4 with fail
 go_loopw [5,7] (fun v i wr => Ht7 w1 M Rw v i wr) (fun _ i _ => Rw.length - (intOf i).toNat)
 case atStart => exact ⟨0,rfl,rfl,by omega,Below.refl _ _⟩
 case round =>
  obtain ⟨k,rfl,rfl,hk,hb7⟩ := hrel
  have B7 := hid hb7
  clear hb7
  by_cases hlt : k < Rw.length
  ·obtain ⟨g6,hg6,hs60⟩ := HPL.out k hlt
   subst hg6
   have hs6 := (B7.out.cell (p := ⟨g6,k,none⟩) (World.block_lt_of_cell? w1 _ hs60)).trans hs60
   clear hs60
   have BN := hid (B7.out.drew)
   have hwk := (wk_two (show k < 1000000 by have := HRS.out.1; omega)).1
   have hwk2 := (wk_two (show k < 1000000 by have := HRS.out.1; omega)).2
   have hkk : key ⟨Rw[k].toArray⟩ = Rw[k] := by simp [key]
   have HTK := hid (maxH_take (L := M) hlt)
   have hhof : hof M Rw[k] = (match lookE M Rw[k] with | none => 0 | some p => p.2.1.height) := rfl
   have hlook := findZ_look M ⟨Rw[k].toArray⟩
   rw [hkk] at hlook
   have hfm : findZ (M.map (·.2.1)) ⟨Rw[k].toArray⟩ = findZ L ⟨Rw[k].toArray⟩ := by rw [← HLM.out]; rfl
   rw [hfm] at hlook
   obtain ⟨aL6,cL6,hcL6,hrL6⟩ := (HRC1.out.below B7.out).row
   have HIR := hid hrL6
   have HNM := hid hrL6.nm
   have HFEW := hid HRC1.out.few
   obtain ⟨X,hX⟩ : ∃ q,q = maxH M (Rw.take k) := ⟨_,rfl⟩
   have HX0 := hid (HM0.out (Rw.take k))
   rw [← hX] at HTK HX0 ⊢
   generalize (⟨Rw[k].toArray⟩ : ByteArray) = sk at hs6 hlook
   generalize Rw[k] = kk at HTK hhof hlook
   have HLT := hid hlt
   have HCS := hid (show wr.cell? ⟨r,0,none⟩ = some (.slice aL6 L.length cL6) ∧ wr.cell? ⟨g6,k,none⟩ = some (.string sk) from ⟨hcL6,hs6⟩)
   have HBD : Hid (Below wr.heap.size wr wr.drew) := hid (Below.refl _ _).drew
   have HFA := hid (find7_any L aL6 cL6 sk wr.drew (HNM.out.below HBD.out) (by have := HFEW.out; omega))
   clear hkk hfm hX hcL6 hrL6 hs6
   rcases hlook with ⟨hz,hlk⟩ | ⟨j,hj,hz,hlk,_⟩
   ·rw [hz] at HFA
    have HNX : Hid (Ht7 w1 M Rw (.int .i64 X) (.int .i64 ((k : Int) + 1)) wr.drew) := hid ⟨k + 1,rfl,by rw [HTK.out,hhof,hlk]; have := HX0.out.1; show _ = Value.int .i64 (max X 0); rw [show max X 0 = X by omega],HLT.out,BN.out⟩
    clear hz hlk hhof
    go_wp2_with fail
    refine wp_region_held_drew (S := fun w' => w'.cell? ⟨r,0,none⟩ = some (.slice aL6 L.length cL6) ∧ w'.cell? ⟨g6,k,none⟩ = some (.string sk)) (by kernel_rfl) (⟨(HBD.out.cell (p := ⟨r,0,none⟩) (World.block_lt_of_cell? wr _ HCS.out.1)).trans HCS.out.1,(HBD.out.cell (p := ⟨g6,k,none⟩) (World.block_lt_of_cell? wr _ HCS.out.2)).trans HCS.out.2⟩) (fun hHeld => ?_)
    refine wpAnyH_take (i := 0) (v := ?vha0) rfl (by kernel_rfl) (by kernel_rfl) (by kernel_rfl) (fun _ _ _ h => h) (Or.inl ⟨by rfl,?hyha0⟩) (by assumption) ?restha0
    case hyha0 => (intro w hSw; (try dsimp only at hSw); go_simp <;> with_reducible rfl)
    try simp only [zqT,zqZ,Act.put,zqB,zq0,zq1]
    refine wpAnyH_take (i := 1) (v := ?vha1) rfl (by kernel_rfl) (by kernel_rfl) (by kernel_rfl) (fun _ _ _ h => h) (Or.inl ⟨by rfl,?hyha1⟩) (by assumption) ?restha1
    case hyha1 => (intro w hSw; (try dsimp only at hSw); go_simp <;> with_reducible rfl)
    try simp only [zqT,zqS,zqZ,Act.put,zqB,zq0,zq1]
    refine wpAnyH_take (i := 2) (v := ?vha2) rfl (by kernel_rfl) (by kernel_rfl) (by kernel_rfl) (fun _ _ _ h => h) (Or.inl ⟨by rfl,?hyha2⟩) (by assumption) ?restha2
    case hyha2 => (intro w hSw; (try dsimp only at hSw); go_simp <;> with_reducible rfl)
    try simp only [zqT,zqS,zqZ,Act.put,zqB,zq0,zq1]
    refine wpAnyH_take (i := 3) (v := ?vha3) rfl (by kernel_rfl) (by kernel_rfl) (by kernel_rfl) (fun _ _ _ h => h) (Or.inl ⟨by rfl,?hyha3⟩) (by assumption) ?restha3
    case hyha3 => (intro w hSw; (try dsimp only at hSw); go_simp <;> with_reducible rfl)
    try simp only [zqT,zqS,zqZ,Act.put,zqB,zq0,zq1]
    refine wpAnyH_take (i := 4) (v := ?vha4) rfl (by kernel_rfl) (by kernel_rfl) (by kernel_rfl) (fun _ _ _ h => h) (Or.inl ⟨by rfl,?hyha4⟩) (by assumption) ?restha4
    case hyha4 => (intro w hSw; (try dsimp only at hSw); go_simp <;> with_reducible rfl)
    try simp only [zqT,zqS,zqZ,Act.put,zqB,zq0,zq1]
    refine wpAnyH_take (i := 5) (v := ?vha5) rfl (by kernel_rfl) (by kernel_rfl) (by kernel_rfl) (fun _ _ _ h => h) (Or.inl ⟨by rfl,?hyha5⟩) (by assumption) ?restha5
    case hyha5 => (intro w hSw; (try dsimp only at hSw); go_simp <;> with_reducible rfl)
    try simp only [zqT,zqS,zqZ,Act.put,zqB,zq0,zq1]
    refine wpAnyH_take (i := 6) (v := ?vha6) rfl (by kernel_rfl) (by kernel_rfl) (by kernel_rfl) (fun _ _ _ h => h) (Or.inl ⟨by rfl,?hyha6⟩) (by assumption) ?restha6
    case hyha6 => (intro w hSw; (try dsimp only at hSw); go_simp <;> with_reducible rfl)
    try simp only [zqT,zqS,zqZ,Act.put,zqB,zq0,zq1]
    refine wpAnyH_take (i := 7) (v := ?vha7) rfl (by kernel_rfl) (by kernel_rfl) (by kernel_rfl) (fun _ _ _ h => h) (Or.inl ⟨by rfl,?hyha7⟩) (by assumption) ?restha7
    case hyha7 => (intro w hSw; (try dsimp only at hSw); go_simp <;> with_reducible rfl)
    try simp only [zqT,zqS,zqZ,Act.put,zqB,zq0,zq1]
    refine wpAnyH_ready (rs := [8]) (by kernel_rfl) (by simp) ?_
    refine AllReadyH.cons rfl (fun K hK => ?_) AllReadyH.nil
    go_simp
    refine HFA.out.mono ?_
    rintro y v3 ⟨rfl,rfl⟩
    refine hK.out _ _ (⟨(HBD.out.cell (p := ⟨r,0,none⟩) (World.block_lt_of_cell? wr _ HCS.out.1)).trans HCS.out.1,(HBD.out.cell (p := ⟨g6,k,none⟩) (World.block_lt_of_cell? wr _ HCS.out.2)).trans HCS.out.2⟩) (fun hHeld => ?_)
    clear hK K
    try simp only [zqT,zqS,zqZ,Act.put,zqB,zq0,zq1]
    refine wpAnyH_take (i := 9) (v := ?vha9) rfl (by kernel_rfl) (by kernel_rfl) (by kernel_rfl) (fun _ _ _ h => h) (Or.inl ⟨by rfl,?hyha9⟩) (by assumption) ?restha9
    case hyha9 => (intro w hSw; (try dsimp only at hSw); go_simp <;> with_reducible rfl)
    try simp only [zqT,zqS,zqZ,Act.put,zqB,zq0,zq1]
    refine wpAnyH_done (by kernel_rfl) ?_ _
    go_wp2_with fail
    go_roundw
    case rel => first | exact HNX.out | (rw [hwk]; exact HNX.out)
    case measure => first | exact less_step rfl HLT.out | exact less_step hwk HLT.out
   ·rw [hz] at HFA
    have hjL : j < L.length := by rw [← HLM.out]; simpa [infs] using hj
    have HJH := hid (HMH.out j hj)
    have hjn : M[j].2.1.height = L[j].height := by
     have e : (infs M)[j]? = some M[j].2.1 := by unfold infs; rw [List.getElem?_map,List.getElem?_eq_getElem hj]; rfl
     rw [HLM.out,List.getElem?_eq_getElem hjL] at e
     injection e with e
     rw [e]
    obtain ⟨b9,off9,hd9,hao9,hb9,hrg9,_⟩ := HIR.out.place j hjL
    have HAO9 := hid hao9
    have c13 : wr.cell? ⟨b9,off9 + j * 25 + 13,none⟩ = some (.int .i64 M[j].2.1.height) := by rw [hjn]; exact hrg9 13 _ rfl
    have HNX : Hid (Ht7 w1 M Rw (.int .i64 (max X M[j].2.1.height)) (.int .i64 ((k : Int) + 1)) wr.drew) := hid ⟨k + 1,rfl,by rw [HTK.out,hhof,hlk],HLT.out,BN.out⟩
    generalize M[j].2.1.height = H at c13 HNX HJH
    have HC13 := hid c13
    have hj0 : (0 : Int) ≤ (j : Int) := by omega
    clear hz hlk hhof hjn hrg9 c13 hao9
    go_wp2_with fail
    refine wp_region_held_drew (S := fun w' => w'.cell? ⟨r,0,none⟩ = some (.slice aL6 L.length cL6) ∧ w'.cell? ⟨g6,k,none⟩ = some (.string sk)) (by kernel_rfl) (⟨(HBD.out.cell (p := ⟨r,0,none⟩) (World.block_lt_of_cell? wr _ HCS.out.1)).trans HCS.out.1,(HBD.out.cell (p := ⟨g6,k,none⟩) (World.block_lt_of_cell? wr _ HCS.out.2)).trans HCS.out.2⟩) (fun hHeld => ?_)
    refine wpAnyH_take (i := 0) (v := ?vhb0) rfl (by kernel_rfl) (by kernel_rfl) (by kernel_rfl) (fun _ _ _ h => h) (Or.inl ⟨by rfl,?hyhb0⟩) (by assumption) ?resthb0
    case hyhb0 => (intro w hSw; (try dsimp only at hSw); go_simp <;> with_reducible rfl)
    try simp only [zqT,zqZ,Act.put,zqB,zq0,zq1]
    refine wpAnyH_take (i := 1) (v := ?vhb1) rfl (by kernel_rfl) (by kernel_rfl) (by kernel_rfl) (fun _ _ _ h => h) (Or.inl ⟨by rfl,?hyhb1⟩) (by assumption) ?resthb1
    case hyhb1 => (intro w hSw; (try dsimp only at hSw); go_simp <;> with_reducible rfl)
    try simp only [zqT,zqS,zqZ,Act.put,zqB,zq0,zq1]
    refine wpAnyH_take (i := 2) (v := ?vhb2) rfl (by kernel_rfl) (by kernel_rfl) (by kernel_rfl) (fun _ _ _ h => h) (Or.inl ⟨by rfl,?hyhb2⟩) (by assumption) ?resthb2
    case hyhb2 => (intro w hSw; (try dsimp only at hSw); go_simp <;> with_reducible rfl)
    try simp only [zqT,zqS,zqZ,Act.put,zqB,zq0,zq1]
    refine wpAnyH_take (i := 3) (v := ?vhb3) rfl (by kernel_rfl) (by kernel_rfl) (by kernel_rfl) (fun _ _ _ h => h) (Or.inl ⟨by rfl,?hyhb3⟩) (by assumption) ?resthb3
    case hyhb3 => (intro w hSw; (try dsimp only at hSw); go_simp <;> with_reducible rfl)
    try simp only [zqT,zqS,zqZ,Act.put,zqB,zq0,zq1]
    refine wpAnyH_take (i := 4) (v := ?vhb4) rfl (by kernel_rfl) (by kernel_rfl) (by kernel_rfl) (fun _ _ _ h => h) (Or.inl ⟨by rfl,?hyhb4⟩) (by assumption) ?resthb4
    case hyhb4 => (intro w hSw; (try dsimp only at hSw); go_simp <;> with_reducible rfl)
    try simp only [zqT,zqS,zqZ,Act.put,zqB,zq0,zq1]
    refine wpAnyH_take (i := 5) (v := ?vhb5) rfl (by kernel_rfl) (by kernel_rfl) (by kernel_rfl) (fun _ _ _ h => h) (Or.inl ⟨by rfl,?hyhb5⟩) (by assumption) ?resthb5
    case hyhb5 => (intro w hSw; (try dsimp only at hSw); go_simp <;> with_reducible rfl)
    try simp only [zqT,zqS,zqZ,Act.put,zqB,zq0,zq1]
    refine wpAnyH_take (i := 6) (v := ?vhb6) rfl (by kernel_rfl) (by kernel_rfl) (by kernel_rfl) (fun _ _ _ h => h) (Or.inl ⟨by rfl,?hyhb6⟩) (by assumption) ?resthb6
    case hyhb6 => (intro w hSw; (try dsimp only at hSw); go_simp <;> with_reducible rfl)
    try simp only [zqT,zqS,zqZ,Act.put,zqB,zq0,zq1]
    refine wpAnyH_take (i := 7) (v := ?vhb7) rfl (by kernel_rfl) (by kernel_rfl) (by kernel_rfl) (fun _ _ _ h => h) (Or.inl ⟨by rfl,?hyhb7⟩) (by assumption) ?resthb7
    case hyhb7 => (intro w hSw; (try dsimp only at hSw); go_simp <;> with_reducible rfl)
    try simp only [zqT,zqS,zqZ,Act.put,zqB,zq0,zq1]
    refine wpAnyH_ready (rs := [8]) (by kernel_rfl) (by simp) ?_
    refine AllReadyH.cons rfl (fun K hK => ?_) AllReadyH.nil
    go_simp
    refine HFA.out.mono ?_
    rintro y v3 ⟨rfl,rfl⟩
    refine hK.out _ _ (⟨(HBD.out.cell (p := ⟨r,0,none⟩) (World.block_lt_of_cell? wr _ HCS.out.1)).trans HCS.out.1,(HBD.out.cell (p := ⟨g6,k,none⟩) (World.block_lt_of_cell? wr _ HCS.out.2)).trans HCS.out.2⟩) (fun hHeld => ?_)
    clear hK K
    try simp only [zqT,zqS,zqZ,Act.put,zqB,zq0,zq1]
    refine wpAnyH_take (i := 9) (v := ?vhb9) rfl (by kernel_rfl) (by kernel_rfl) (by kernel_rfl) (fun _ _ _ h => h) (Or.inl ⟨by rfl,?hyhb9⟩) (by assumption) ?resthb9
    case hyhb9 => (intro w hSw; (try dsimp only at hSw); go_simp <;> with_reducible rfl)
    try simp only [zqT,zqS,zqZ,Act.put,zqB,zq0,zq1]
    refine wpAnyH_done (by kernel_rfl) ?_ _
    have hao9 := HAO9.out
    subst hao9
    have c13 := (HBD.out.cell (p := ⟨b9,off9 + j * 25 + 13,none⟩) (World.block_lt_of_cell? wr _ HC13.out)).trans HC13.out
    have cr := (HBD.out.cell (p := ⟨r,0,none⟩) (World.block_lt_of_cell? wr _ HCS.out.1)).trans HCS.out.1
    go_wp2_with fail
    go_roundw
    case rel => first | exact HNX.out | (rw [hwk]; exact HNX.out)
    case measure => first | exact less_step rfl HLT.out | exact less_step hwk HLT.out
  ·have hke : k = Rw.length := by omega
   subst hke
   have HE : Hid (maxH M (Rw.take Rw.length) = G) := hid (by rw [List.take_length]; exact HSM.out)
   generalize maxH M (Rw.take Rw.length) = X at HE
   have HB9 := hid (Trm.go HB1.out B7.out)
   go_wp2_with fail
   go_ret
   exact ⟨ret_int HE.out,HB9.out⟩
end Go.Proofs.YtiekbhlnnmnklaaGreat
