/-
 env.placesOf.
-/
import Derived.Lib.Hide
import Derived.Test.YtiekbhlnnmnklaaGreatQB21
import Derived.Carry
import Derived.Test.YtiekbhlnnmnklaaGreatQB22
import Derived.Deep.WholeRow
import Derived.Test.YtiekbhlnnmnklaaGreatQB17
import Derived.Test.YtiekbhlnnmnklaaGreatQB15
open Go.Lib (hid)
set_option maxRecDepth 100000
set_option maxHeartbeats 32000000
namespace Go.Proofs.YtiekbhlnnmnklaaGreat
open Go.RowKit Go.Shelf Go.Maps Lvl Trm Env
namespace Env
def names (l : List Inf) : List (List UInt8) := l.map fun x => key x.name
theorem TiedP.nil : TiedP (.map []) [] := ⟨⟨[],rfl⟩,fun k => by simp [Maps.has],fun k hk => by cases hk⟩
theorem isKeyS (k : List UInt8) : WideAt.IsKeyLit (.string k) := trivial
theorem TiedP.snoc {D : DataW Unit} {ks : List (List UInt8)} (h : TiedP D ks) {k : List UInt8} (hn : k ∉ ks) : TiedP (D.put (.string k) (.lit (.int .i64 ks.length))) (ks ++ [k]) where
 isMap := h.isMap.put _ _
 has x := by
  by_cases e : x = k
  ·subst e; rw [has_put_same h.isMap (isKeyS _)]; simp
  ·rw [has_put_other (fun e2 => e (by injection e2)),h.has x]; simp [e]
 at_ x hx z := by
  by_cases e : x = k
  ·subst e
   rw [atKey_put_same h.isMap (isKeyS _),List.idxOf_append,if_neg hn]
   simp
  ·have hx2 : x ∈ ks := by simpa [e] using hx
   rw [atKey_put_other (fun e2 => e (by injection e2)),h.at_ x hx2,List.idxOf_append,if_pos hx2]
theorem TiedP.same {D : DataW Unit} {ks : List (List UInt8)} (h : TiedP D ks) {k : List UInt8} (hn : k ∈ ks) : TiedP D (ks ++ [k]) where
 isMap := h.isMap
 has x := by
  rw [h.has x]
  simp
  intro e
  exact e ▸ hn
 at_ x hx z := by
  have hx2 : x ∈ ks := by
   rcases List.mem_append.1 hx with h1 | h1
   ·exact h1
   ·simp at h1; exact h1 ▸ hn
  rw [h.at_ x hx2,List.idxOf_append,if_pos hx2]
def PlRel (w : World) (l : List Inf) (i : Value) (wr : World) : Prop := ∃ (k : Nat) (D : DataW Unit),i = .int .i64 k ∧ k ≤ l.length ∧ wr.ownsMap Tryz.prog 9 (plainElem Tryz.prog 3) w.heap.size k D ∧ TiedP D (names (l.take k)) ∧ Below w.heap.size w wr
def PlPost (w : World) (l : List Inf) (e : Ending) (w' : World) : Prop := ∃ (m n : Nat) (D : DataW Unit),e = .returned (.map (some m)) ∧ w'.ownsMap Tryz.prog 9 (plainElem Tryz.prog 3) m n D ∧ TiedP D (names l) ∧ w.heap.size ≤ m ∧ Below w.heap.size w w'
theorem names_take {l : List Inf} {k : Nat} (hk : k < l.length) : names (l.take (k + 1)) = names (l.take k) ++ [key l[k].name] := by
 unfold names
 rw [List.take_succ_eq_append_getElem hk,List.map_append]
 rfl
theorem names_len (l : List Inf) : (names l).length = l.length := by simp [names]
end Env
theorem placesOf_any (l : List Inf) (lo : Option Addr) (lc : Nat) (w : World) (hr : InfRow w.heap.size w lo l) (hl : l.length ≤ 1000000) : Calls Tryz.prog 98 #[.slice lo l.length lc] w (PlPost w l) := by
 have HR := hid hr
 have HL := hid hl
 have H0 : Hid (PlRel w l (.int .i64 (0 : Nat)) (w.alloc (.map #[] 0))) := hid ⟨0,.map [],rfl,by omega,World.ownsMap_made w Tryz.prog _ _,by rw [List.take_zero]; exact TiedP.nil,below_one _ _⟩
 have hmm := @run_makeMap Tryz.prog
 clear hr hl
 go_enter Tryz.func98,Tryz.ntmps98
 go_wp2_with fail
 go_loopw [10] (fun i wr => PlRel w l i wr) (fun i _ => l.length - (intOf i).toNat)
 case atStart => exact H0.out
 case round =>
  obtain ⟨k,D,rfl,hk,hown,htied,hbel⟩ := hrel
  have HOWN := hid hown
  have HTI := hid htied
  have HBEL := hid hbel
  clear hown htied hbel H0 hmm
  by_cases hlt : k < l.length
  ·obtain ⟨b,off,hd,hlo,hb,hrg,hin⟩ := (HR.out.below HBEL.out).place k hlt
   have HNT := hid (names_take hlt)
   have c1 : wr.cell? ⟨b,off + k * 25 + 1,none⟩ = some (.string l[k].name) := hrg 1 _ rfl
   have hsz : l[k].name.size ≤ maxLen := by have := hin.fit.name; unfold maxLen; omega
   obtain ⟨s,hs⟩ : ∃ s,s = l[k].name := ⟨_,rfl⟩
   rw [← hs] at HNT c1 hsz
   have hlook := places_ok HOWN.out HTI.out hsz
   have hkey : keyOf Tryz.prog 9 (.string s) = some (.string (key s)) := WideMaps.keyOf_string_mk Tryz.underlying9 hsz
   have HLT := hid hlt
   have hwk : wrap64 ((k : Int) + 1) = (k : Int) + 1 := IntWalk.wrap64_in _ (by have := HL.out; omega)
   subst hlo
   by_cases hmem : key s ∈ names (l.take k)
   ·rw [decide_eq_true hmem] at hlook
    have HNX : Hid (PlRel w l (.int .i64 ((k : Int) + 1)) wr) := hid ⟨k + 1,D,rfl,HLT.out,HOWN.out.mono (by omega),by rw [HNT.out]; exact HTI.out.same hmem,HBEL.out⟩
    generalize ((if key s ∈ names (l.take k) then (names (l.take k)).idxOf (key s) else 0 : Nat) : Int) = N at hlook
    clear hrg hin hsz hs hkey hmem
    go_wp2_with fail
    go_roundw
    case rel => rw [hwk]; exact HNX.out
    case measure => exact less_step hwk HLT.out
   ·rw [decide_eq_false hmem] at hlook
    obtain ⟨w1,hrun,hown1,hgrow⟩ := HOWN.out.update (string_keyed Tryz.underlying9) Tryz.underlying145 (by have := HL.out; unfold maxLen; omega) hkey (plainElem_int (q := .i64) (a := (k : Int)) Tryz.underlying3 (by simp [Lit.wf,IntKind.min,IntKind.max,IntKind.signed,IntKind.bits]; have := HL.out; omega))
    have hlk : (names (l.take k)).length = k := by rw [names_len,List.length_take]; omega
    have hti := HTI.out.snoc hmem
    rw [hlk] at hti
    have hb1 : Below w.heap.size w w1 := HBEL.out.trans ⟨hgrow.os,hgrow.tape,hgrow.output,hgrow.size,fun q hq => hgrow.block q (by have := HBEL.out.size; omega) (fun e => by injection e with e; omega)⟩
    have HNX : Hid (PlRel w l (.int .i64 ((k : Int) + 1)) w1) := hid ⟨k + 1,_,rfl,HLT.out,hown1,by rw [HNT.out]; exact hti,hb1⟩
    have c2 : w1.cell? ⟨b,off + k * 25 + 1,none⟩ = some (.string s) := by
     rw [← c1]
     exact World.cell?_of_block (hgrow.block b (by have := HBEL.out.size; omega) (fun e => by injection e with e; omega))
    generalize ((if key s ∈ names (l.take k) then (names (l.take k)).idxOf (key s) else 0 : Nat) : Int) = N at hlook
    clear hrg hin hsz hs hkey hmem hown1 hgrow hti hb1 hlk
    go_wp2_with fail
    go_roundw
    case rel => rw [hwk]; exact HNX.out
    case measure => exact less_step hwk HLT.out
  ·have hke : k = l.length := by omega
   subst hke
   have htied := HTI.out
   rw [List.take_length] at htied
   have HPO : Hid (PlPost w l (.returned (.map (some w.heap.size))) wr) := hid ⟨_,_,D,rfl,HOWN.out,htied,Nat.le_refl _,HBEL.out⟩
   clear htied
   go_wp2_with fail
   go_ret
   exact HPO.out
end Go.Proofs.YtiekbhlnnmnklaaGreat
namespace Go.Proofs.YtiekbhlnnmnklaaGreat
open Go.RowKit Go.Shelf Go.Maps Lvl Trm Env
namespace Env
theorem places_at {w : World} {m n : Nat} {D : DataW Unit} {ks : List (List UInt8)} (hown : w.ownsMap Tryz.prog 9 (plainElem Tryz.prog 3) m n D) (ht : TiedP D ks) {s : ByteArray} (hs : s.size ≤ maxLen) (hin : key s ∈ ks) :
 (Instr.lookup 145 (.map (some m)) (.string s) false).run Tryz.prog w = .ok (.int .i64 (ks.idxOf (key s) : Nat)) w := by
 obtain ⟨c,hrun,hat,_⟩ := hown.lookup_int (string_keyed Tryz.underlying9) Tryz.underlying145 Tryz.underlying3 (zeroI w) (WideMaps.keyOf_string_mk Tryz.underlying9 hs)
 rw [show s.data.toList = key s from rfl,ht.at_ _ hin] at hat
 injection hat with h1
 injection h1 with _ h1
 rw [hrun,← h1]
structure KC0 (B : Nat) (w : World) (P E : Nat) (e : Nat) (L : List Ent) (ks : List (List UInt8)) : Prop where
 places : ∃ m n D,w.heap[P]? = some (.cells #[.map (some m)] 145) ∧ w.ownsMap Tryz.prog 9 (plainElem Tryz.prog 3) m n D ∧ TiedP D ks
 env : w.heap[E]? = some (.cells #[.pointer (some ⟨e,0,none⟩)] 31)
 ent : ∃ mo v,EnvB B w e L mo v
theorem KC0.below {B : Nat} {w w' : World} {P E e : Nat} {L : List Ent} {ks : List (List UInt8)} (h : KC0 B w P E e L ks) (b : Below w.heap.size w w') : KC0 B w' P E e L ks := by
 obtain ⟨⟨m,n,D,h1,h2,h3⟩,h4,mo,v,h7⟩ := h
 have key : ∀ {q : Nat} {o : Obj},w.heap[q]? = some o → w'.heap[q]? = some o := fun hq => (b.block _ (Array.getElem?_eq_some_iff.1 hq).1).trans hq
 exact ⟨⟨m,n,D,key h1,⟨h2.choose,h2.choose_spec.choose,(b.block m h2.lt).trans h2.choose_spec.choose_spec.1,h2.choose_spec.choose_spec.2⟩,h3⟩,key h4,mo,v,h7.below b⟩
noncomputable def wrongI (L : List Ent) (ks : List (List UInt8)) (i : Nat) (x : Inf) : Int :=
 if nameOk x.name = false then 5 else if (lookE L (key x.name)).isSome = true then 5 else if ks.idxOf (key x.name) < i then 5
 else if x.isKind = false then 1 else if x.nums = false then 1 else if x.params < 0 then 8 else if 4 < x.params then 8 else wrongT L ks i x.params.toNat x
end Env
theorem wrongOne_any {B : Nat} {w : World} {P E e i : Nat} {L : List Ent} {ks : List (List UInt8)} {x : Inf} {hd : IHd} (h : KC0 B w P E e L ks) (hin : x.In w.heap.size w hd) (hk : ks.length ≤ 1000000) (hmem : key x.name ∈ ks) (hr : x.rules.length ≤ 1000) :
 Calls Tryz.prog 100 #[.int .i64 i,.agg (x.vals hd).toArray,.pointer (some ⟨E,0,none⟩),.pointer (some ⟨P,0,none⟩)] w fun y w' => y = .returned (.int .i64 (wrongI L ks i x)) ∧ Below w.heap.size w w' := by
 obtain ⟨G,hG⟩ : ∃ G,G = wrongI L ks i x := ⟨_,rfl⟩
 rw [← hG]
 have HG := hid hG
 obtain ⟨WA,hWA⟩ : ∃ WA,WA = (w.alloc (.cells #[.int .i64 i] 3)).alloc (.cells (x.vals hd).toArray 46) := ⟨_,rfl⟩
 have HBA := hid (show Below w.heap.size w WA from hWA ▸ below_two _ _ _)
 have HI := hid (show WA.heap[w.heap.size]? = some (.cells #[.int .i64 i] 3) from hWA ▸ new1of2 _ _ _)
 have HX := hid (show IBox WA (w.heap.size + 1) x hd from hWA ▸ new2 _ _ _)
 have HC0 := hid (h.below HBA.out)
 have HIN := hid (Inf.carry hin HBA.out)
 have HKS := hid hk
 have HME := hid hmem
 have HRU := hid hr
 have hnsz := hin.fit.name
 have HNM := hid (fun (W : World) => Name_any x.name W hnsz)
 have hms : x.name.size ≤ maxLen := by unfold maxLen; omega
 have HAT := hid (fun (W : World) (hW : Below WA.heap.size WA W) => (show Calls Tryz.prog 61 #[.pointer (some ⟨e,0,none⟩),.string x.name] W fun y w' => y = .returned (ptrV (lookE L (key x.name))) ∧ W = w' from by
  obtain ⟨_,_,mo,v,h7⟩ := HC0.out.below hW
  exact at_any h7 x.name hms))
 have HPL := hid (fun (W : World) (hW : Below WA.heap.size WA W) => (show ∃ m,W.cell? ⟨P,0,none⟩ = some (.map (some m)) ∧ (Instr.lookup 145 (.map (some m)) (.string x.name) false).run Tryz.prog W = .ok (.int .i64 (ks.idxOf (key x.name) : Nat)) W from by
  obtain ⟨⟨m,n,D,h1,h2,h3⟩,_,_⟩ := HC0.out.below hW
  exact ⟨m,one_cellE h1,places_at h2 h3 hms HME.out⟩))
 have HIK := hid (fun (W : World) => isKind_any x.kind W)
 have HNU := hid (fun (W : World) (hW : Below WA.heap.size WA W) => numbersMay_any (HX.out.keep hW) ((HIN.out.rules.below hW).mono hW.size) HRU.out)
 have HWT := hid (fun (W : World) (hW : Below WA.heap.size WA W) (n : Nat) (hp : x.params = (n : Int)) (hn : n ≤ 4) => (show Calls Tryz.prog 106 #[.pointer (some ⟨w.heap.size + 1,0,none⟩),fnK P E w.heap.size (w.heap.size + 1)] W fun y w' => y = .returned (.int .i64 (wrongT L ks i n x)) ∧ Below W.heap.size W w' from by
  obtain ⟨h1,h2,h3⟩ := HC0.out.below hW
  exact wrongTerms_any ⟨h1,h2,(hW.block _ (Array.getElem?_eq_some_iff.1 HI.out).1).trans HI.out,⟨hd,HX.out.keep hW⟩,h3⟩ (HX.out.keep hW) (Inf.carry HIN.out hW) HKS.out HRU.out hp hn))
 have HCE := hid (fun (W : World) (hW : Below WA.heap.size WA W) => (show W.cell? ⟨E,0,none⟩ = some (.pointer (some ⟨e,0,none⟩)) ∧ W.cell? ⟨w.heap.size,0,none⟩ = some (.int .i64 i) ∧ W.cell? ⟨w.heap.size + 1,0,none⟩ = some (.int .u8 x.kind) ∧ W.cell? ⟨w.heap.size + 1,1,none⟩ = some (.string x.name) ∧ W.cell? ⟨w.heap.size + 1,2,none⟩ = some (.int .i64 x.params) from
  ⟨one_cellE (HC0.out.below hW).env,one_cellE ((hW.block _ (Array.getElem?_eq_some_iff.1 HI.out).1).trans HI.out),(HX.out.keep hW).cell 0,(HX.out.keep hW).cell 1,(HX.out.keep hW).cell 2⟩))
 clear h hin hk hmem hr hnsz hms hG
 obtain ⟨O,hO⟩ : ∃ O,O = lookE L (key x.name) := ⟨_,rfl⟩
 rw [← hO] at HAT
 have HO := hid hO
 clear hO
 obtain ⟨cs,hcs⟩ : ∃ cs,cs = (x.vals hd).toArray := ⟨_,rfl⟩
 rw [← hcs] at hWA ⊢
 clear hcs
 go_enter Tryz.func100,Tryz.ntmps100
 go_upto_region 1 with fail
 rw [← hWA]
 clear hWA
 obtain ⟨cE,cI,c0,c1,c2⟩ := HCE.out WA (Below.refl _ _)
 obtain ⟨m,cP,hrun⟩ := HPL.out WA (Below.refl _ _)
 go_wp2_with fail
 refine (HNM.out WA).mono ?_
 rintro y w' ⟨rfl,rfl⟩
 cases hnm : nameOk x.name
 ·have HE : Hid ((5 : Int) = G) := hid (by rw [HG.out]; unfold wrongI; rw [if_pos hnm])
  clear hnm
  go_wp2_with fail
  go_ret
  exact ⟨by rw [← HE.out]; rfl,HBA.out⟩
 ·have HNMY := hid hnm
  clear hnm
  have HATW := hid (HAT.out WA (Below.refl _ _))
  cases O with
  | some p =>
    have HE : Hid ((5 : Int) = G) := hid (by rw [HG.out]; unfold wrongI; rw [if_neg (by rw [HNMY.out]; decide),if_pos (by rw [← HO.out]; rfl)])
    unfold ptrV at HATW
    go_wp2_with fail
    refine HATW.out.mono ?_
    rintro y w' ⟨rfl,rfl⟩
    go_wp2_with fail
    go_ret
    exact ⟨by rw [← HE.out]; rfl,HBA.out⟩
  | none =>
    unfold ptrV at HATW
    have HOF : Hid (¬ (lookE L (key x.name)).isSome = true) := hid (by rw [← HO.out]; decide)
    obtain ⟨N,hN⟩ : ∃ N,N = ks.idxOf (key x.name) := ⟨_,rfl⟩
    rw [← hN] at hrun
    have HN := hid hN
    clear hN
    by_cases hlt : N < i
    ·have HE : Hid ((5 : Int) = G) := hid (by rw [HG.out]; unfold wrongI; rw [if_neg (by rw [HNMY.out]; decide),if_neg HOF.out,if_pos (by rw [← HN.out]; exact hlt)])
     have hd1 : decide ((N : Int) < (i : Int)) = true := decide_eq_true (by omega)
     go_wp2_with fail
     refine HATW.out.mono ?_
     rintro y w' ⟨rfl,rfl⟩
     go_wp2_with fail
     go_ret
     exact ⟨by rw [← HE.out]; rfl,HBA.out⟩
    ·have HNF : Hid (¬ ks.idxOf (key x.name) < i) := hid (by rw [← HN.out]; exact hlt)
     have hd1 : decide ((N : Int) < (i : Int)) = false := decide_eq_false (by omega)
     have hd2 : decide (N < i) = false := decide_eq_false hlt
     go_wp2_with fail
     refine HATW.out.mono ?_
     rintro y w' ⟨rfl,rfl⟩
     go_wp2_with fail
     refine (HIK.out WA).mono ?_
     rintro y w' ⟨rfl,rfl⟩
     have HIKE := hid (show x.isKind = (decide (1 ≤ x.kind) && decide (x.kind ≤ 6)) from rfl)
     obtain ⟨Q,hQ⟩ : ∃ Q,Q = (decide (1 ≤ x.kind) && decide (x.kind ≤ 6)) := ⟨_,rfl⟩
     rw [← hQ] at HIKE ⊢
     clear hQ hd1 hd2 hlt cP hrun
     cases Q
     ·have HE : Hid ((1 : Int) = G) := hid (by rw [HG.out]; unfold wrongI; rw [if_neg (by rw [HNMY.out]; decide),if_neg HOF.out,if_neg HNF.out,if_pos HIKE.out])
      go_wp2_with fail
      go_ret
      exact ⟨by rw [← HE.out]; rfl,HBA.out⟩
     ·have HNW := hid (HNU.out WA (Below.refl _ _))
      obtain ⟨U,hU⟩ : ∃ U,U = x.nums := ⟨_,rfl⟩
      rw [← hU] at HNW
      have HU := hid hU
      clear hU
      go_wp2_with fail
      refine HNW.out.mono ?_
      rintro y w1 ⟨rfl,b1⟩
      have HB1 := hid b1
      have HBW := hid (Trm.go HBA.out b1)
      clear b1 cE cI c0 c1 c2 HNW
      obtain ⟨cE,cI,c0,c1,c2⟩ := HCE.out w1 HB1.out
      cases U
      ·have HE : Hid ((1 : Int) = G) := hid (by rw [HG.out]; unfold wrongI; rw [if_neg (by rw [HNMY.out]; decide),if_neg HOF.out,if_neg HNF.out,if_neg (by rw [HIKE.out]; decide),if_pos HU.out.symm])
       go_wp2_with fail
       go_ret
       exact ⟨by rw [← HE.out]; rfl,HBW.out⟩
      ·by_cases hp0 : x.params < 0
       ·have HE : Hid ((8 : Int) = G) := hid (by rw [HG.out]; unfold wrongI; rw [if_neg (by rw [HNMY.out]; decide),if_neg HOF.out,if_neg HNF.out,if_neg (by rw [HIKE.out]; decide),if_neg (by rw [← HU.out]; decide),if_pos hp0])
        go_wp2_with fail
        go_ret
        exact ⟨by rw [← HE.out]; rfl,HBW.out⟩
       ·have hp1 : 0 ≤ x.params := by omega
        by_cases hp4 : 4 < x.params
        ·have HE : Hid ((8 : Int) = G) := hid (by rw [HG.out]; unfold wrongI; rw [if_neg (by rw [HNMY.out]; decide),if_neg HOF.out,if_neg HNF.out,if_neg (by rw [HIKE.out]; decide),if_neg (by rw [← HU.out]; decide),if_neg hp0,if_pos hp4])
         go_wp2_with fail
         go_ret
         exact ⟨by rw [← HE.out]; rfl,HBW.out⟩
        ·have hp5 : x.params ≤ 4 := by omega
         have HE : Hid (wrongT L ks i x.params.toNat x = G) := hid (by rw [HG.out]; unfold wrongI; rw [if_neg (by rw [HNMY.out]; decide),if_neg HOF.out,if_neg HNF.out,if_neg (by rw [HIKE.out]; decide),if_neg (by rw [← HU.out]; decide),if_neg hp0,if_neg hp4])
         have HWW := hid (HWT.out w1 HB1.out x.params.toNat (by omega) (by omega))
         unfold fnK at HWW
         obtain ⟨z,hz⟩ : ∃ z,z = wrongT L ks i x.params.toNat x := ⟨_,rfl⟩
         rw [← hz] at HE HWW
         clear hz
         go_wp2_with fail
         refine HWW.out.mono ?_
         rintro y w2 ⟨rfl,b2⟩
         have HB2 := hid (Trm.go HBA.out (Trm.go HB1.out b2))
         clear b2
         go_wp2_with fail
         go_ret
         exact ⟨by rw [← HE.out]; rfl,HB2.out⟩
end Go.Proofs.YtiekbhlnnmnklaaGreat
namespace Go.Proofs.YtiekbhlnnmnklaaGreat
open Go.RowKit Go.Shelf Go.Maps Lvl Trm Env
namespace Env
def Inf.zeros : Array Value := #[.int .u8 0,.string ⟨#[]⟩,.int .i64 0,.int .u8 0,.int .i64 0,.string ⟨#[]⟩,.slice none 0 0,.slice none 0 0,.int .u8 0,.int .i64 0,.string ⟨#[]⟩,.slice none 0 0,.slice none 0 0,.int .i64 0,.string ⟨#[]⟩,.string ⟨#[]⟩,.int .i64 0,.int .i64 0,.int .i64 0,.int .i64 0,.int .i64 0,.int .i64 0,.slice none 0 0,.int .i64 0,.bool false]
theorem infoInf : (Tryz.prog.info? 46).map (·.size) = some 25 := by kernel_rfl
noncomputable def wrongL (L : List Ent) (l : List Inf) : Int := firstE (fun p : Inf × Nat => wrongI L (names l) p.2 p.1) l.zipIdx
def SiRel (w : World) (L : List Ent) (l : List Inf) (i : Value) (wr : World) : Prop := ∃ k : Nat,i = .int .i64 k ∧ k ≤ l.length ∧ (∀ j (h : j < l.length),j < k → wrongI L (names l) j l[j] = 0) ∧ Below w.heap.size w wr
theorem wrongL_at {L : List Ent} {l : List Inf} {k : Nat} (hk : k < l.length) (h : ∀ j (hj : j < l.length),j < k → wrongI L (names l) j l[j] = 0) (hne : wrongI L (names l) k l[k] ≠ 0) : wrongL L l = wrongI L (names l) k l[k] := by
 unfold wrongL
 have hk2 : k < l.zipIdx.length := by simpa using hk
 rw [firstE_at (l := l.zipIdx) (k := k) hk2 (fun j hj hjk => by
  have hj2 : j < l.length := by simpa using hj
  simp only [List.getElem_zipIdx,Nat.zero_add]
  exact h j hj2 hjk) (by simp only [List.getElem_zipIdx,Nat.zero_add]; exact hne)]
 simp only [List.getElem_zipIdx,Nat.zero_add]
theorem wrongL_zero {L : List Ent} {l : List Inf} (h : ∀ j (hj : j < l.length),wrongI L (names l) j l[j] = 0) : wrongL L l = 0 := by
 unfold wrongL
 exact firstE_zero fun j hj => by
  have hj2 : j < l.length := by simpa using hj
  simp only [List.getElem_zipIdx,Nat.zero_add]
  exact h j hj2
end Env
theorem searchI_any {B : Nat} {w : World} {P E e : Nat} {L : List Ent} (l : List Inf) (lo : Option Addr) (lc : Nat) (h : KC0 B w P E e L (names l)) (hr : InfRow w.heap.size w lo l) (hl : l.length ≤ 1000000) (hrs : ∀ x ∈ l,x.rules.length ≤ 1000) :
 Calls Tryz.prog 99 #[.slice lo l.length lc,.func (.func 100) #[] #[.pointer (some ⟨E,0,none⟩),.pointer (some ⟨P,0,none⟩)]] w fun y w' => y = .returned (.int .i64 (wrongL L l)) ∧ Below w.heap.size w w' := by
 have HU := hid (fun (W : World) (hW : Below w.heap.size w W) (k : Nat) (hk : k < l.length) (hd : IHd) (hin : l[k].In W.heap.size W hd) => wrongOne_any (i := k) (h.below hW) hin (by rw [names_len]; exact hl) (List.mem_map.2 ⟨l[k],List.getElem_mem hk,rfl⟩) (hrs _ (List.getElem_mem hk)))
 have HR := hid hr
 have HL := hid hl
 have HKI := hid infoInf
 obtain ⟨G,hG⟩ : ∃ G,G = wrongL L l := ⟨_,rfl⟩
 rw [← hG]
 have HG := hid hG
 clear h hr hl hrs hG
 go_enter Tryz.func99,Tryz.ntmps99
 go_wp2_with fail
 go_loopw [10] (fun i wr => SiRel w L l i wr) (fun i _ => l.length - (intOf i).toNat)
 case atStart => exact ⟨0,rfl,by omega,fun j _ hj => by omega,Below.refl _ _⟩
 case round =>
  obtain ⟨k,rfl,hk,hall,hbel⟩ := hrel
  have HALL := hid hall
  have HBEL := hid hbel
  clear hall hbel
  by_cases hlt : k < l.length
  ·obtain ⟨b,off,hd,hlo,hb,hrg,hin⟩ := (HR.out.below HBEL.out).place k hlt
   subst hlo
   have HIN := hid (hin.mono HBEL.out.size)
   have HUK := hid (fun (W : World) (hW : Below wr.heap.size wr W) => HU.out W (Trm.go HBEL.out hW) k hlt hd (Inf.carry HIN.out hW))
   have HNO : Hid (wrongI L (names l) k l[k] ≠ 0 → wrongI L (names l) k l[k] = G) := hid (fun hh => by rw [HG.out]; exact (wrongL_at hlt HALL.out hh).symm)
   have HYE : Hid (wrongI L (names l) k l[k] = 0 → ∀ j (h : j < l.length),j < k + 1 → wrongI L (names l) j l[j] = 0) := hid (fun hh j hj hjk => by
    by_cases e : j = k
    ·subst e; exact hh
    ·exact HALL.out j hj (by omega))
   obtain ⟨z,hz⟩ : ∃ z,z = wrongI L (names l) k l[k] := ⟨_,rfl⟩
   rw [← hz] at HUK HNO HYE
   obtain ⟨cs,hcs⟩ : ∃ cs,cs = l[k].vals hd := ⟨_,rfl⟩
   have hcl : cs.length = 25 := by rw [hcs]; rfl
   have hone : cs.toArray.all (·.oneCell') = true := by rw [hcs]; kernel_rfl
   rw [← hcs] at hrg HUK
   clear hz hcs hin
   have HRG := hid hrg
   have HCL : Hid ((Tryz.prog.info? 46).map (·.size) = some cs.length) := hid (by rw [HKI.out,hcl])
   have HCA : Hid ((Tryz.prog.info? 46).map (·.size) = some cs.toArray.size) := hid (by rw [HKI.out,List.size_toArray,hcl])
   have HC25 : Hid (Inf.zeros.size = cs.toArray.size) := hid (by show (25 : Nat) = cs.toArray.size; rw [List.size_toArray,hcl])
   have HONE := hid hone
   obtain ⟨WA,hWA⟩ : ∃ WA,WA = wr.alloc (.cells cs.toArray 46) := ⟨_,rfl⟩
   have HBA := hid (show Below wr.heap.size wr WA from hWA ▸ below_one _ _)
   have HBX := hid (show WA.rangeAt wr.heap.size 0 cs from fun j v hv => by
    have hn : WA.heap[wr.heap.size]? = some (.cells cs.toArray 46) := hWA ▸ World.alloc_heap_new wr _
    rw [Nat.zero_add]
    unfold World.cell?
    simp [hn]
    exact hv)
   have HBW := hid (Trm.go HBEL.out HBA.out)
   have HLT := hid hlt
   clear hrg hcl hone
   go_upto_region 4 with (first
    | (refine wpList_load_mid rfl 46 (.tmp 13) rfl b (off + k * 25) rfl cs _ HRG.out Tryz.underlying46 rfl HCL.out ?_)
    | (refine wpList_store_row rfl 46 (.tmp 6) (.tmp 14) rfl wr.heap.size cs.toArray rfl rfl 46 Inf.zeros (World.alloc_heap_new wr _) HCA.out HC25.out HONE.out ?_))
   rw [World.setRow_alloc_new,← hWA]
   clear hWA
   go_wp2_with (refine wpList_load_mid rfl 46 (.tmp 6) rfl wr.heap.size 0 rfl cs _ HBX.out Tryz.underlying46 rfl HCL.out ?_)
   refine (HUK.out WA HBA.out).mono ?_
   rintro y w2 ⟨rfl,b2⟩
   have HB2 := hid (Trm.go HBW.out b2)
   clear b2 HUK
   by_cases hz0 : z = 0
   ·subst hz0
    have HE := hid (HYE.out rfl)
    have hwk : wrap64 ((k : Int) + 1) = (k : Int) + 1 := IntWalk.wrap64_in _ (by have := HL.out; have := HLT.out; omega)
    go_wp2_with fail
    go_roundw
    case rel => exact ⟨k + 1,by rw [hwk]; rfl,HLT.out,HE.out,HB2.out⟩
    case measure => exact less_step hwk HLT.out
   ·have HE := hid (HNO.out hz0)
    have hz1 : (z == 0) = false := by simpa using hz0
    go_wp2_with fail
    go_ret
    exact ⟨by rw [← HE.out]; rfl,HB2.out⟩
  ·have HE : Hid ((0 : Int) = G) := hid (by
    rw [HG.out]
    exact (wrongL_zero fun j hj => HALL.out j hj (by omega)).symm)
   go_wp2_with fail
   go_ret
   exact ⟨by rw [← HE.out]; rfl,HBEL.out⟩
theorem wrong_any {B : Nat} {w : World} {e : Nat} {L : List Ent} {mo : Option Nat} {v : Value} (h : EnvB B w e L mo v) (l : List Inf) (lo : Option Addr) (lc : Nat) (hr : InfRow w.heap.size w lo l) (hl : l.length ≤ 1000000) (hrs : ∀ x ∈ l,x.rules.length ≤ 1000) :
 Calls Tryz.prog 57 #[.pointer (some ⟨e,0,none⟩),.slice lo l.length lc] w fun y w' => y = .returned (.int .i64 (wrongL L l)) ∧ Below w.heap.size w w' := by
 obtain ⟨WA,hWA⟩ : ∃ WA,WA = w.alloc (.cells #[.pointer (some ⟨e,0,none⟩)] 31) := ⟨_,rfl⟩
 have HBA := hid (show Below w.heap.size w WA from hWA ▸ below_one _ _)
 have HE := hid (show WA.heap[w.heap.size]? = some (.cells #[.pointer (some ⟨e,0,none⟩)] 31) from hWA ▸ World.alloc_heap_new _ _)
 have HENV := hid (h.below HBA.out)
 have HR := hid (hr.carry HBA.out)
 have HP := hid (placesOf_any l lo lc WA HR.out hl)
 have HL := hid hl
 have HRS := hid hrs
 clear h hr hl hrs
 go_enter Tryz.func57,Tryz.ntmps57
 go_upto_region 1 with fail
 rw [← hWA]
 clear hWA
 go_wp2_with fail
 refine HP.out.mono ?_
 rintro y w1 ⟨m,n,D,rfl,hown,htied,hge,b1⟩
 obtain ⟨W2,hW2⟩ : ∃ W2,W2 = w1.alloc (.cells #[.map (some m)] 145) := ⟨_,rfl⟩
 have HB12 := hid (show Below w1.heap.size w1 W2 from hW2 ▸ below_one _ _)
 have HB2 := hid (Trm.go b1 HB12.out)
 have HKC := hid (show KC0 B W2 w1.heap.size w.heap.size e L (names l) from
  ⟨⟨m,n,D,hW2 ▸ World.alloc_heap_new _ _,hW2 ▸ hown.alloc _,htied⟩,(HB2.out.block _ (Array.getElem?_eq_some_iff.1 HE.out).1).trans HE.out,mo,v,HENV.out.below HB2.out⟩)
 have HS := hid (searchI_any l lo lc HKC.out (HR.out.carry HB2.out) HL.out HRS.out)
 have HBW := hid (Trm.go HBA.out HB2.out)
 clear hown htied hge b1
 go_upto_region 2 with fail
 rw [← hW2]
 clear hW2
 go_wp2_with fail
 refine HS.out.mono ?_
 rintro y w3 ⟨rfl,b3⟩
 have HB3 := hid (Trm.go HBW.out b3)
 clear b3
 go_wp2_with fail
 go_ret
 exact ⟨rfl,HB3.out⟩
end Go.Proofs.YtiekbhlnnmnklaaGreat
namespace Go.Proofs.YtiekbhlnnmnklaaGreat
open Go.RowKit Go.Shelf Lvl Trm Env
namespace Env
def belL (n : Nat) (l : Lv) : Bool := l.ps.all fun x => decide (x.1 < (n : Int))
theorem par4 : parL 4 = own.list := by kernel_rfl
theorem par_get (n i : Nat) (h : i < (parL n).length) : (parL n)[i] = (param (i : Int)).1 := by simp [parL]
theorem par_may {n : Nat} (hn : n ≤ 4) : (parL n).all Lv.may = true := by
 rw [List.all_eq_true]
 intro x hx
 obtain ⟨i,hi,rfl⟩ := List.mem_iff_getElem.1 hx
 rw [par_get]
 rw [parL_len] at hi
 have h4 : i = 0 ∨ i = 1 ∨ i = 2 ∨ i = 3 := by omega
 rcases h4 with rfl | rfl | rfl | rfl
 ·exact (by kernel_rfl : Lv.may (param ((0 : Nat) : Int)).1 = true)
 ·exact (by kernel_rfl : Lv.may (param ((1 : Nat) : Int)).1 = true)
 ·exact (by kernel_rfl : Lv.may (param ((2 : Nat) : Int)).1 = true)
 ·exact (by kernel_rfl : Lv.may (param ((3 : Nat) : Int)).1 = true)
theorem step_par {n : Nat} (o : Option Lv) (x : Int × Int) (hx : x.1.toNat < n) (hn : n ≤ 4) : instStep (parL n) o x = instStep (parL 4) o x := by
 cases o with
 | none => rfl
 | some o =>
   unfold instStep
   simp only [parL_len]
   rw [dif_pos hx,dif_pos (by omega),par_get,par_get]
theorem fold_par {n : Nat} (hn : n ≤ 4) : ∀ (ps : List (Int × Int)) (o : Option Lv),(∀ x ∈ ps,x.1.toNat < n) → ps.foldl (instStep (parL n)) o = ps.foldl (instStep (parL 4)) o
 | [],_,_ => rfl
 | x :: r,o,h => by
   rw [List.foldl_cons,List.foldl_cons,step_par o x (h x (by simp)) hn]
   exact fold_par hn r _ (fun y hy => h y (by simp [hy]))
theorem fold_out {n : Nat} : ∀ (ps : List (Int × Int)) (o : Option Lv),(∃ x ∈ ps,n ≤ x.1.toNat) → ps.foldl (instStep (parL n)) o = none
 | [],_,h => by obtain ⟨x,hx,_⟩ := h; cases hx
 | x :: r,o,h => by
   rw [List.foldl_cons]
   by_cases hx : n ≤ x.1.toNat
   ·have e : instStep (parL n) o x = none := by
     cases o with
     | none => rfl
     | some o =>
       unfold instStep
       simp only [parL_len]
       rw [dif_neg (by omega)]
    rw [e]
    exact instFold_none _ r
   ·obtain ⟨y,hy,hny⟩ := h
    rcases List.mem_cons.1 hy with rfl | hy
    ·exact absurd hny hx
    ·exact fold_out r _ ⟨y,hy,hny⟩
theorem inst_par {l : Lv} (hl : l.may = true) {n : Nat} (hn : n ≤ 4) : inst l (parL n) = if belL n l = true then (l,0) else (zero,8) := by
 have ho := (may_iff l).1 hl
 have h0 : ∀ x ∈ l.ps,0 ≤ x.1 := fun x hx => by
  obtain ⟨k,_,rfl,_⟩ := mem_ps_k hx
  simp
 by_cases hb : belL n l = true
 ·rw [if_pos hb]
  have hall : ∀ x ∈ l.ps,x.1.toNat < n := fun x hx => by
   have h1 := List.all_eq_true.1 hb x hx
   have h2 := of_decide_eq_true h1
   have := h0 x hx
   omega
  have e4 := inst_own ho
  rw [← par4] at e4
  rw [inst,if_pos ⟨hl,par_may (by omega)⟩] at e4
  rw [inst,if_pos ⟨hl,par_may hn⟩]
  unfold instAll at e4 ⊢
  rw [fold_par hn _ _ hall]
  exact e4
 ·rw [if_neg hb]
  have hex : ∃ x ∈ l.ps,n ≤ x.1.toNat := by
   refine Classical.byContradiction fun hc => hb (List.all_eq_true.2 fun x hx => decide_eq_true ?_)
   have h1 : ¬ n ≤ x.1.toNat := fun h => hc ⟨x,hx,h⟩
   have := h0 x hx
   omega
  rw [inst,if_pos ⟨hl,par_may hn⟩]
  unfold instAll
  rw [fold_out _ _ hex]
mutual
def _root_.Go.Proofs.YtiekbhlnnmnklaaGreat.Trm.Tm.bel (n : Nat) : Tm → Bool
 | .mk _ _ _ ls ts => ls.all (belL n) && belT n ts
def belT (n : Nat) : List Tm → Bool
 | [] => true
 | t :: r => t.bel n && belT n r
end
theorem node_lv {t : Tm} (h : t.node = true) : ∀ l ∈ t.ls,l.may = true := by
 unfold Tm.node at h
 simp only [Bool.and_eq_true] at h
 exact List.all_eq_true.1 h.1.1.1.2
theorem errL_par {n : Nat} (hn : n ≤ 4) : ∀ ls : List Lv,(∀ l ∈ ls,l.may = true) → errL (parL n) ls = if ls.all (belL n) = true then 0 else 8
 | [],_ => rfl
 | l :: r,h => by
   rw [errL,inst_par (h l (by simp)) hn,errL_par hn r (fun x hx => h x (by simp [hx])),List.all_cons]
   cases belL n l <;> simp
mutual
theorem lerr_par {n : Nat} (hn : n ≤ 4) : ∀ (t : Tm) (d : Int),OkMay t d → t.lerr (parL n) = if t.bel n = true then 0 else 8
 | .mk k m s ls ts,d,ho => by
   rw [Tm.lerr,Tm.bel,errL_par hn ls (node_lv ho.node.1),lerrL_par hn ts (d + 1) (fun x hx => ho.down x hx)]
   cases ls.all (belL n) <;> simp
theorem lerrL_par {n : Nat} (hn : n ≤ 4) : ∀ (ts : List Tm) (d : Int),(∀ x ∈ ts,OkMay x d) → lerrL (parL n) ts = if belT n ts = true then 0 else 8
 | [],d,_ => rfl
 | t :: r,d,ho => by
   rw [lerrL,belT,lerr_par hn t d (ho t (by simp)),lerrL_par hn r d (fun x hx => ho x (by simp [hx]))]
   cases t.bel n <;> simp
end
theorem lmap_own {n : Nat} (hn : n ≤ 4) {ls : List Lv} (h : ∀ l ∈ ls,l.may = true) (hb : ls.all (belL n) = true) : ls.map (fL (parL n)) = ls := by
 rw [List.map_congr_left (g := id) (fun l hl => ?_),List.map_id]
 unfold fL
 rw [inst_par (h l hl) hn,if_pos (List.all_eq_true.1 hb l hl)]
 rfl
mutual
theorem lmap_par {n : Nat} (hn : n ≤ 4) : ∀ (t : Tm) (d : Int),OkMay t d → t.bel n = true → t.lmap (fL (parL n)) = t
 | .mk k m s ls ts,d,ho,hb => by
   rw [Tm.bel,Bool.and_eq_true] at hb
   rw [Tm.lmap,lmap_own (ls := ls) hn (node_lv ho.node.1) hb.1,lmapL_par hn ts (d + 1) (fun x hx => ho.down x hx) hb.2]
theorem lmapL_par {n : Nat} (hn : n ≤ 4) : ∀ (ts : List Tm) (d : Int),(∀ x ∈ ts,OkMay x d) → belT n ts = true → lmapL (fL (parL n)) ts = ts
 | [],d,_,_ => by rw [lmapL]
 | t :: r,d,ho,hb => by
   rw [belT,Bool.and_eq_true] at hb
   rw [lmapL,lmap_par hn t d (ho t (by simp)) hb.1,lmapL_par hn r d (fun x hx => ho x (by simp [hx])) hb.2]
end
mutual
theorem allL_lerr {L : List Lv} : ∀ t : Tm,t.lerr L = 0 → t.allL (okL L)
 | .mk k m s ls ts,h => by
   rw [Tm.lerr] at h
   rw [Tm.allL]
   by_cases he : errL L ls = 0
   ·rw [if_pos he] at h
    exact ⟨allE he,allLL_lerr ts h⟩
   ·rw [if_neg he] at h; exact absurd h he
theorem allLL_lerr {L : List Lv} : ∀ ts : List Tm,lerrL L ts = 0 → allLL (okL L) ts
 | [],_ => by rw [allLL]; trivial
 | t :: r,h => by
   rw [lerrL] at h
   rw [allLL]
   by_cases he : t.lerr L = 0
   ·rw [if_pos he] at h
    exact ⟨allL_lerr t he,allLL_lerr r h⟩
   ·rw [if_neg he] at h; exact absurd h he
theorem allE {L : List Lv} : ∀ {ls : List Lv},errL L ls = 0 → ∀ l ∈ ls,okL L l
 | [],_,l,hl => by cases hl
 | x :: r,h,l,hl => by
   rw [errL] at h
   by_cases he : (inst x L).2 = 0
   ·rw [if_pos he] at h
    rcases List.mem_cons.1 hl with rfl | hl
    ·exact he
    ·exact allE h l hl
   ·rw [if_neg he] at h; exact absurd h he
end
theorem levels_par {t : Tm} (hm : t.may = true) {n : Nat} (hn : n ≤ 4) : levelsAns t (parL n) = if t.bel n = true then (t,0) else (zeroT,8) := by
 have hg : LGood (parL n) (parL n) := .inl rfl
 have he := thr_err (L := parL n) t (parL n) 1 0 (OkMay.start hm) hg
 have hl := lerr_par hn t 1 (OkMay.start hm)
 by_cases hb : t.bel n = true
 ·rw [if_pos hb] at hl ⊢
  exact levels_is hm (allL_lerr t hl) (lmap_par hn t 1 (OkMay.start hm) hb) hm
 ·rw [if_neg hb] at hl ⊢
  unfold levelsAns ansT
  rw [if_neg (by rw [hm]; simp),he,hl,if_pos (by decide)]
def openB (t : Tm) (n : Nat) : Int := if t.may = true ∧ t.free ≤ 0 then (if t.bel n = true then 0 else 8) else 7
theorem openE_is (t : Tm) {n : Nat} (hn : n ≤ 4) : openE t n = openB t n := by
 unfold openE openB
 by_cases h : t.may = true ∧ t.free ≤ 0
 ·rw [if_pos h,if_pos h,levels_par h.1 hn]
  split <;> rfl
 ·rw [if_neg h,if_neg h]
def wrongTB (L : List Ent) (ks : List (List UInt8)) (i n : Nat) (x : Inf) : Int :=
 if firstE (fun t => openB t n) x.terms = 0 then firstE (fun t => unk (t.nms.all (known L ks i x.hv))) x.terms else firstE (fun t => openB t n) x.terms
theorem wrongT_is (L : List Ent) (ks : List (List UInt8)) (i : Nat) {n : Nat} (hn : n ≤ 4) (x : Inf) : wrongT L ks i n x = wrongTB L ks i n x := by
 unfold wrongT wrongTB
 rw [show (fun t => openE t n) = (fun t => openB t n) from funext fun t => openE_is t hn]
def wrongIB (L : List Ent) (ks : List (List UInt8)) (i : Nat) (x : Inf) : Int :=
 if nameOk x.name = false then 5 else if (lookE L (key x.name)).isSome = true then 5 else if ks.idxOf (key x.name) < i then 5
 else if x.isKind = false then 1 else if x.nums = false then 1 else if x.params < 0 then 8 else if 4 < x.params then 8 else wrongTB L ks i x.params.toNat x
theorem wrongI_is (L : List Ent) (ks : List (List UInt8)) (i : Nat) (x : Inf) : wrongI L ks i x = wrongIB L ks i x := by
 unfold wrongI wrongIB
 by_cases h : 4 < x.params
 ·rw [if_pos h,if_pos h]
 ·rw [if_neg h,if_neg h,wrongT_is L ks i (by omega)]
def wrongLB (L : List Ent) (l : List Inf) : Int := firstE (fun p : Inf × Nat => wrongIB L (names l) p.2 p.1) l.zipIdx
theorem wrongL_is (L : List Ent) (l : List Inf) : wrongL L l = wrongLB L l := by
 unfold wrongL wrongLB
 rw [show (fun p : Inf × Nat => wrongI L (names l) p.2 p.1) = (fun p : Inf × Nat => wrongIB L (names l) p.2 p.1) from funext fun p => wrongI_is _ _ _ _]
end Env
end Go.Proofs.YtiekbhlnnmnklaaGreat
