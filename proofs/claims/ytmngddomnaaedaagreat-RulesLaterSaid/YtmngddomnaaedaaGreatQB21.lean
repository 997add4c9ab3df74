/-
 env.placesOf.
-/
import Derived.Lib.Hide
import Derived.Test.YtmngddomnaaedaaGreatQB19
import Derived.Carry
import Derived.Test.YtmngddomnaaedaaGreatQB20
import Derived.Deep.WholeRow
import Derived.Laws.CopyOwn
open Go.Lib (hid)
set_option maxRecDepth 100000
set_option maxHeartbeats 32000000
namespace Go.Proofs.YtmngddomnaaedaaGreat
open Go.RowKit Go.Shelf Go.Maps Lvl Trm Env
namespace Env
def names (l:List Inf):List (List UInt8):=l.map fun x=>key x.name
theorem TiedP.nil:TiedP (.map []) []:=⟨⟨[],rfl⟩,fun k=>by simp [Maps.has],fun k hk=>by cases hk⟩
theorem isKeyS (k:List UInt8):WideAt.IsKeyLit (.string k):=trivial
theorem TiedP.snoc {D:DataW Unit} {ks:List (List UInt8)} (h:TiedP D ks) {k:List UInt8} (hn:k ∉ ks):TiedP (D.put (.string k) (.lit (.int .i64 ks.length))) (ks ++ [k]) where
 isMap:=h.isMap.put _ _
 has x:=by
  by_cases e:x=k
  ·subst e; rw [has_put_same h.isMap (isKeyS _)]; simp
  ·rw [has_put_other (fun e2=>e (by injection e2)),h.has x]; simp [e]
 at_ x hx z:=by
  by_cases e:x=k
  ·subst e
   rw [atKey_put_same h.isMap (isKeyS _),List.idxOf_append,if_neg hn]
   simp
  ·have hx2:x ∈ ks:=by simpa [e] using hx
   rw [atKey_put_other (fun e2=>e (by injection e2)),h.at_ x hx2,List.idxOf_append,if_pos hx2]
theorem TiedP.same {D:DataW Unit} {ks:List (List UInt8)} (h:TiedP D ks) {k:List UInt8} (hn:k ∈ ks):TiedP D (ks ++ [k]) where
 isMap:=h.isMap
 has x:=by
  rw [h.has x]
  simp
  intro e
  exact e ▸ hn
 at_ x hx z:=by
  have hx2:x ∈ ks:=by
   rcases List.mem_append.1 hx with h1 | h1
   ·exact h1
   ·simp at h1; exact h1 ▸ hn
  rw [h.at_ x hx2,List.idxOf_append,if_pos hx2]
def PlRel (w:World) (l:List Inf) (i:Value) (wr:World):Prop:=∃ (k:Nat) (D:DataW Unit),i=.int .i64 k∧k≤l.length∧wr.ownsMap Tryz.prog 9 (plainElem Tryz.prog 3) w.heap.size k D∧TiedP D (names (l.take k))∧Below w.heap.size w wr
def PlPost (w:World) (l:List Inf) (e:Ending) (w':World):Prop:=∃ (m n:Nat) (D:DataW Unit),e=.returned (.map (some m))∧w'.ownsMap Tryz.prog 9 (plainElem Tryz.prog 3) m n D∧TiedP D (names l)∧w.heap.size≤m∧Below w.heap.size w w'
theorem names_take {l:List Inf} {k:Nat} (hk:k < l.length):names (l.take (k + 1))=names (l.take k) ++ [key l[k].name]:=by
 unfold names
 rw [List.take_succ_eq_append_getElem hk,List.map_append]
 rfl
theorem names_len (l:List Inf):(names l).length=l.length:=by simp [names]
end Env
theorem placesOf_any (l:List Inf) (lo:Option Addr) (lc:Nat) (w:World) (hr:InfRow w.heap.size w lo l) (hl:l.length≤1000000):Calls Tryz.prog 94 #[.slice lo l.length lc] w (PlPost w l):=by
 have HR:=hid hr
 have HL:=hid hl
 have H0:Hid (PlRel w l (.int .i64 (0:Nat)) (w.alloc (.map #[] 0))):=hid ⟨0,.map [],rfl,by omega,World.ownsMap_made w Tryz.prog _ _,by rw [List.take_zero]; exact TiedP.nil,below_one _ _⟩
 have hmm:=@run_makeMap Tryz.prog
 clear hr hl
 go_enter Tryz.func94,Tryz.ntmps94
 go_wp2_with fail
 go_loopw [10] (fun i wr=>PlRel w l i wr) (fun i _=>l.length - (intOf i).toNat)
 case atStart=>exact H0.out
 case round =>
  obtain ⟨k,D,rfl,hk,hown,htied,hbel⟩:=hrel
  have HOWN:=hid hown
  have HTI:=hid htied
  have HBEL:=hid hbel
  clear hown htied hbel H0 hmm
  by_cases hlt:k < l.length
  ·obtain ⟨b,off,hd,hlo,hb,hrg,hin⟩:=(HR.out.below HBEL.out).place k hlt
   have HNT:=hid (names_take hlt)
   have c1:wr.cell? ⟨b,off + k * 25 + 1,none⟩=some (.string l[k].name):=hrg 1 _ rfl
   have hsz:l[k].name.size≤maxLen:=by have:=hin.fit.name; unfold maxLen; omega
   obtain ⟨s,hs⟩:∃ s,s=l[k].name:=⟨_,rfl⟩
   rw [← hs] at HNT c1 hsz
   have hlook:=places_ok HOWN.out HTI.out hsz
   have hkey:keyOf Tryz.prog 9 (.string s)=some (.string (key s)):=WideMaps.keyOf_string_mk Tryz.underlying9 hsz
   have HLT:=hid hlt
   have hwk:wrap64 ((k:Int) + 1)=(k:Int) + 1:=IntWalk.wrap64_in _ (by have:=HL.out; omega)
   subst hlo
   by_cases hmem:key s ∈ names (l.take k)
   ·rw [decide_eq_true hmem] at hlook
    have HNX:Hid (PlRel w l (.int .i64 ((k:Int) + 1)) wr):=hid ⟨k + 1,D,rfl,HLT.out,HOWN.out.mono (by omega),by rw [HNT.out]; exact HTI.out.same hmem,HBEL.out⟩
    generalize ((if key s ∈ names (l.take k) then (names (l.take k)).idxOf (key s) else 0:Nat):Int)=N at hlook
    clear hrg hin hsz hs hkey hmem
    go_wp2_with fail
    go_roundw
    case rel=>rw [hwk]; exact HNX.out
    case measure=>exact less_step hwk HLT.out
   ·rw [decide_eq_false hmem] at hlook
    obtain ⟨w1,hrun,hown1,hgrow⟩:=HOWN.out.update (string_keyed Tryz.underlying9) Tryz.underlying148 (by have:=HL.out; unfold maxLen; omega) hkey (plainElem_int (q:=.i64) (a:=(k:Int)) Tryz.underlying3 (by simp [Lit.wf,IntKind.min,IntKind.max,IntKind.signed,IntKind.bits]; have:=HL.out; omega))
    have hlk:(names (l.take k)).length=k:=by rw [names_len,List.length_take]; omega
    have hti:=HTI.out.snoc hmem
    rw [hlk] at hti
    have hb1:Below w.heap.size w w1:=HBEL.out.trans ⟨hgrow.os,hgrow.tape,hgrow.output,hgrow.size,fun q hq=>hgrow.block q (by have:=HBEL.out.size; omega) (fun e=>by injection e with e; omega)⟩
    have HNX:Hid (PlRel w l (.int .i64 ((k:Int) + 1)) w1):=hid ⟨k + 1,_,rfl,HLT.out,hown1,by rw [HNT.out]; exact hti,hb1⟩
    have c2:w1.cell? ⟨b,off + k * 25 + 1,none⟩=some (.string s):=by
     rw [← c1]
     exact World.cell?_of_block (hgrow.block b (by have:=HBEL.out.size; omega) (fun e=>by injection e with e; omega))
    generalize ((if key s ∈ names (l.take k) then (names (l.take k)).idxOf (key s) else 0:Nat):Int)=N at hlook
    clear hrg hin hsz hs hkey hmem hown1 hgrow hti hb1 hlk
    go_wp2_with fail
    go_roundw
    case rel=>rw [hwk]; exact HNX.out
    case measure=>exact less_step hwk HLT.out
  ·have hke:k=l.length:=by omega
   subst hke
   have htied:=HTI.out
   rw [List.take_length] at htied
   have HPO:Hid (PlPost w l (.returned (.map (some w.heap.size))) wr):=hid ⟨_,_,D,rfl,HOWN.out,htied,Nat.le_refl _,HBEL.out⟩
   clear htied
   go_wp2_with fail
   go_ret
   exact HPO.out
end Go.Proofs.YtmngddomnaaedaaGreat
namespace Go.Proofs.YtmngddomnaaedaaGreat
open Go.RowKit Go.Shelf Go.Maps Lvl Trm Env
namespace Env
theorem places_at {w:World} {m n:Nat} {D:DataW Unit} {ks:List (List UInt8)} (hown:w.ownsMap Tryz.prog 9 (plainElem Tryz.prog 3) m n D) (ht:TiedP D ks) {s:ByteArray} (hs:s.size≤maxLen) (hin:key s ∈ ks) :
 (Instr.lookup 148 (.map (some m)) (.string s) false).run Tryz.prog w=.ok (.int .i64 (ks.idxOf (key s):Nat)) w:=by
 obtain ⟨c,hrun,hat,_⟩:=hown.lookup_int (string_keyed Tryz.underlying9) Tryz.underlying148 Tryz.underlying3 (zeroI w) (WideMaps.keyOf_string_mk Tryz.underlying9 hs)
 rw [show s.data.toList=key s from rfl,ht.at_ _ hin] at hat
 injection hat with h1
 injection h1 with _ h1
 rw [hrun,← h1]
structure KC0 (B:Nat) (w:World) (P E:Nat) (e:Nat) (L:List Ent) (ks:List (List UInt8)):Prop where
 places:∃ m n D,w.heap[P]?=some (.cells #[.map (some m)] 148)∧w.ownsMap Tryz.prog 9 (plainElem Tryz.prog 3) m n D∧TiedP D ks
 env:w.heap[E]?=some (.cells #[.pointer (some ⟨e,0,none⟩)] 26)
 ent:∃ mo v,EnvB B w e L mo v
theorem KC0.below {B:Nat} {w w':World} {P E e:Nat} {L:List Ent} {ks:List (List UInt8)} (h:KC0 B w P E e L ks) (b:Below w.heap.size w w'):KC0 B w' P E e L ks:=by
 obtain ⟨⟨m,n,D,h1,h2,h3⟩,h4,mo,v,h7⟩:=h
 have key:∀ {q:Nat} {o:Obj},w.heap[q]?=some o→w'.heap[q]?=some o:=fun hq=>(b.block _ (Array.getElem?_eq_some_iff.1 hq).1).trans hq
 exact ⟨⟨m,n,D,key h1,⟨h2.choose,h2.choose_spec.choose,(b.block m h2.lt).trans h2.choose_spec.choose_spec.1,h2.choose_spec.choose_spec.2⟩,h3⟩,key h4,mo,v,h7.below b⟩
noncomputable def wrongI (L:List Ent) (ks:List (List UInt8)) (i:Nat) (x:Inf):Int :=
 if nameOk x.name=false then 5 else if (lookE L (key x.name)).isSome=true then 5 else if ks.idxOf (key x.name) < i then 5
 else if x.isKind=false then 1 else if x.nums=false then 1 else if x.params < 0 then 8 else if 4 < x.params then 8 else wrongT L ks i x.params.toNat x
end Env
theorem wrongOne_any {B:Nat} {w:World} {P E e i:Nat} {L:List Ent} {ks:List (List UInt8)} {x:Inf} {hd:IHd} (h:KC0 B w P E e L ks) (hin:x.In w.heap.size w hd) (hk:ks.length≤1000000) (hmem:key x.name ∈ ks) (hr:x.rules.length≤1000) :
 Calls Tryz.prog 96 #[.int .i64 i,.agg (x.vals hd).toArray,.pointer (some ⟨E,0,none⟩),.pointer (some ⟨P,0,none⟩)] w fun y w'=>y=.returned (.int .i64 (wrongI L ks i x))∧Below w.heap.size w w':=by
 obtain ⟨G,hG⟩:∃ G,G=wrongI L ks i x:=⟨_,rfl⟩
 rw [← hG]
 have HG:=hid hG
 obtain ⟨WA,hWA⟩:∃ WA,WA=(w.alloc (.cells #[.int .i64 i] 3)).alloc (.cells (x.vals hd).toArray 53):=⟨_,rfl⟩
 have HBA:=hid (show Below w.heap.size w WA from hWA ▸ below_two _ _ _)
 have HI:=hid (show WA.heap[w.heap.size]?=some (.cells #[.int .i64 i] 3) from hWA ▸ new1of2 _ _ _)
 have HX:=hid (show IBox WA (w.heap.size + 1) x hd from hWA ▸ new2 _ _ _)
 have HC0:=hid (h.below HBA.out)
 have HIN:=hid (Inf.carry hin HBA.out)
 have HKS:=hid hk
 have HME:=hid hmem
 have HRU:=hid hr
 have hnsz:=hin.fit.name
 have HNM:=hid (fun (W:World)=>Name_any x.name W hnsz)
 have hms:x.name.size≤maxLen:=by unfold maxLen; omega
 have HAT:=hid (fun (W:World) (hW:Below WA.heap.size WA W)=>(show Calls Tryz.prog 57 #[.pointer (some ⟨e,0,none⟩),.string x.name] W fun y w'=>y=.returned (ptrV (lookE L (key x.name)))∧W=w' from by
  obtain ⟨_,_,mo,v,h7⟩:=HC0.out.below hW
  exact at_any h7 x.name hms))
 have HPL:=hid (fun (W:World) (hW:Below WA.heap.size WA W)=>(show ∃ m,W.cell? ⟨P,0,none⟩=some (.map (some m))∧(Instr.lookup 148 (.map (some m)) (.string x.name) false).run Tryz.prog W=.ok (.int .i64 (ks.idxOf (key x.name):Nat)) W from by
  obtain ⟨⟨m,n,D,h1,h2,h3⟩,_,_⟩:=HC0.out.below hW
  exact ⟨m,one_cellE h1,places_at h2 h3 hms HME.out⟩))
 have HIK:=hid (fun (W:World)=>isKind_any x.kind W)
 have HNU:=hid (fun (W:World) (hW:Below WA.heap.size WA W)=>numbersMay_any (HX.out.keep hW) ((HIN.out.rules.below hW).mono hW.size) HRU.out)
 have HWT:=hid (fun (W:World) (hW:Below WA.heap.size WA W) (n:Nat) (hp:x.params=(n:Int)) (hn:n≤4)=>(show Calls Tryz.prog 102 #[.pointer (some ⟨w.heap.size + 1,0,none⟩),fnK P E w.heap.size (w.heap.size + 1)] W fun y w'=>y=.returned (.int .i64 (wrongT L ks i n x))∧Below W.heap.size W w' from by
  obtain ⟨h1,h2,h3⟩:=HC0.out.below hW
  exact wrongTerms_any ⟨h1,h2,(hW.block _ (Array.getElem?_eq_some_iff.1 HI.out).1).trans HI.out,⟨hd,HX.out.keep hW⟩,h3⟩ (HX.out.keep hW) (Inf.carry HIN.out hW) HKS.out HRU.out hp hn))
 have HCE:=hid (fun (W:World) (hW:Below WA.heap.size WA W)=>(show W.cell? ⟨E,0,none⟩=some (.pointer (some ⟨e,0,none⟩))∧W.cell? ⟨w.heap.size,0,none⟩=some (.int .i64 i)∧W.cell? ⟨w.heap.size + 1,0,none⟩=some (.int .u8 x.kind)∧W.cell? ⟨w.heap.size + 1,1,none⟩=some (.string x.name)∧W.cell? ⟨w.heap.size + 1,2,none⟩=some (.int .i64 x.params) from
  ⟨one_cellE (HC0.out.below hW).env,one_cellE ((hW.block _ (Array.getElem?_eq_some_iff.1 HI.out).1).trans HI.out),(HX.out.keep hW).cell 0,(HX.out.keep hW).cell 1,(HX.out.keep hW).cell 2⟩))
 clear h hin hk hmem hr hnsz hms hG
 obtain ⟨O,hO⟩:∃ O,O=lookE L (key x.name):=⟨_,rfl⟩
 rw [← hO] at HAT
 have HO:=hid hO
 clear hO
 obtain ⟨cs,hcs⟩:∃ cs,cs=(x.vals hd).toArray:=⟨_,rfl⟩
 rw [← hcs] at hWA ⊢
 clear hcs
 go_enter Tryz.func96,Tryz.ntmps96
 go_upto_region 1 with fail
 rw [← hWA]
 clear hWA
 obtain ⟨cE,cI,c0,c1,c2⟩:=HCE.out WA (Below.refl _ _)
 obtain ⟨m,cP,hrun⟩:=HPL.out WA (Below.refl _ _)
 go_wp2_with fail
 refine (HNM.out WA).mono ?_
 rintro y w' ⟨rfl,rfl⟩
 cases hnm:nameOk x.name
 ·have HE:Hid ((5:Int)=G):=hid (by rw [HG.out]; unfold wrongI; rw [if_pos hnm])
  clear hnm
  go_wp2_with fail
  go_ret
  exact ⟨by rw [← HE.out]; rfl,HBA.out⟩
 ·have HNMY:=hid hnm
  clear hnm
  have HATW:=hid (HAT.out WA (Below.refl _ _))
  cases O with
  | some p =>
    have HE:Hid ((5:Int)=G):=hid (by rw [HG.out]; unfold wrongI; rw [if_neg (by rw [HNMY.out]; decide),if_pos (by rw [← HO.out]; rfl)])
    unfold ptrV at HATW
    go_wp2_with fail
    refine HATW.out.mono ?_
    rintro y w' ⟨rfl,rfl⟩
    go_wp2_with fail
    go_ret
    exact ⟨by rw [← HE.out]; rfl,HBA.out⟩
  | none =>
    unfold ptrV at HATW
    have HOF:Hid (¬ (lookE L (key x.name)).isSome=true):=hid (by rw [← HO.out]; decide)
    obtain ⟨N,hN⟩:∃ N,N=ks.idxOf (key x.name):=⟨_,rfl⟩
    rw [← hN] at hrun
    have HN:=hid hN
    clear hN
    by_cases hlt:N < i
    ·have HE:Hid ((5:Int)=G):=hid (by rw [HG.out]; unfold wrongI; rw [if_neg (by rw [HNMY.out]; decide),if_neg HOF.out,if_pos (by rw [← HN.out]; exact hlt)])
     have hd1:decide ((N:Int) < (i:Int))=true:=decide_eq_true (by omega)
     go_wp2_with fail
     refine HATW.out.mono ?_
     rintro y w' ⟨rfl,rfl⟩
     go_wp2_with fail
     go_ret
     exact ⟨by rw [← HE.out]; rfl,HBA.out⟩
    ·have HNF:Hid (¬ ks.idxOf (key x.name) < i):=hid (by rw [← HN.out]; exact hlt)
     have hd1:decide ((N:Int) < (i:Int))=false:=decide_eq_false (by omega)
     have hd2:decide (N < i)=false:=decide_eq_false hlt
     go_wp2_with fail
     refine HATW.out.mono ?_
     rintro y w' ⟨rfl,rfl⟩
     go_wp2_with fail
     refine (HIK.out WA).mono ?_
     rintro y w' ⟨rfl,rfl⟩
     have HIKE:=hid (show x.isKind=(decide (1≤x.kind) && decide (x.kind≤6)) from rfl)
     obtain ⟨Q,hQ⟩:∃ Q,Q=(decide (1≤x.kind) && decide (x.kind≤6)):=⟨_,rfl⟩
     rw [← hQ] at HIKE ⊢
     clear hQ hd1 hd2 hlt cP hrun
     cases Q
     ·have HE:Hid ((1:Int)=G):=hid (by rw [HG.out]; unfold wrongI; rw [if_neg (by rw [HNMY.out]; decide),if_neg HOF.out,if_neg HNF.out,if_pos HIKE.out])
      go_wp2_with fail
      go_ret
      exact ⟨by rw [← HE.out]; rfl,HBA.out⟩
     ·have HNW:=hid (HNU.out WA (Below.refl _ _))
      obtain ⟨U,hU⟩:∃ U,U=x.nums:=⟨_,rfl⟩
      rw [← hU] at HNW
      have HU:=hid hU
      clear hU
      go_wp2_with fail
      refine HNW.out.mono ?_
      rintro y w1 ⟨rfl,b1⟩
      have HB1:=hid b1
      have HBW:=hid (Trm.go HBA.out b1)
      clear b1 cE cI c0 c1 c2 HNW
      obtain ⟨cE,cI,c0,c1,c2⟩:=HCE.out w1 HB1.out
      cases U
      ·have HE:Hid ((1:Int)=G):=hid (by rw [HG.out]; unfold wrongI; rw [if_neg (by rw [HNMY.out]; decide),if_neg HOF.out,if_neg HNF.out,if_neg (by rw [HIKE.out]; decide),if_pos HU.out.symm])
       go_wp2_with fail
       go_ret
       exact ⟨by rw [← HE.out]; rfl,HBW.out⟩
      ·by_cases hp0:x.params < 0
       ·have HE:Hid ((8:Int)=G):=hid (by rw [HG.out]; unfold wrongI; rw [if_neg (by rw [HNMY.out]; decide),if_neg HOF.out,if_neg HNF.out,if_neg (by rw [HIKE.out]; decide),if_neg (by rw [← HU.out]; decide),if_pos hp0])
        go_wp2_with fail
        go_ret
        exact ⟨by rw [← HE.out]; rfl,HBW.out⟩
       ·have hp1:0≤x.params:=by omega
        by_cases hp4:4 < x.params
        ·have HE:Hid ((8:Int)=G):=hid (by rw [HG.out]; unfold wrongI; rw [if_neg (by rw [HNMY.out]; decide),if_neg HOF.out,if_neg HNF.out,if_neg (by rw [HIKE.out]; decide),if_neg (by rw [← HU.out]; decide),if_neg hp0,if_pos hp4])
         go_wp2_with fail
         go_ret
         exact ⟨by rw [← HE.out]; rfl,HBW.out⟩
        ·have hp5:x.params≤4:=by omega
         have HE:Hid (wrongT L ks i x.params.toNat x=G):=hid (by rw [HG.out]; unfold wrongI; rw [if_neg (by rw [HNMY.out]; decide),if_neg HOF.out,if_neg HNF.out,if_neg (by rw [HIKE.out]; decide),if_neg (by rw [← HU.out]; decide),if_neg hp0,if_neg hp4])
         have HWW:=hid (HWT.out w1 HB1.out x.params.toNat (by omega) (by omega))
         unfold fnK at HWW
         obtain ⟨z,hz⟩:∃ z,z=wrongT L ks i x.params.toNat x:=⟨_,rfl⟩
         rw [← hz] at HE HWW
         clear hz
         go_wp2_with fail
         refine HWW.out.mono ?_
         rintro y w2 ⟨rfl,b2⟩
         have HB2:=hid (Trm.go HBA.out (Trm.go HB1.out b2))
         clear b2
         go_wp2_with fail
         go_ret
         exact ⟨by rw [← HE.out]; rfl,HB2.out⟩
end Go.Proofs.YtmngddomnaaedaaGreat
namespace Go.Proofs.YtmngddomnaaedaaGreat
open Go.RowKit Go.Shelf Go.Maps Lvl Trm Env
namespace Env
def Inf.zeros:Array Value:=#[.int .u8 0,.string ⟨#[]⟩,.int .i64 0,.int .u8 0,.int .i64 0,.string ⟨#[]⟩,.slice none 0 0,.slice none 0 0,.int .u8 0,.int .i64 0,.string ⟨#[]⟩,.slice none 0 0,.slice none 0 0,.int .i64 0,.string ⟨#[]⟩,.string ⟨#[]⟩,.int .i64 0,.int .i64 0,.int .i64 0,.int .i64 0,.int .i64 0,.int .i64 0,.slice none 0 0,.int .i64 0,.bool false]
theorem infoInf:(Tryz.prog.info? 53).map (·.size)=some 25:=by kernel_rfl
noncomputable def wrongL (L:List Ent) (l:List Inf):Int:=firstE (fun p:Inf × Nat=>wrongI L (names l) p.2 p.1) l.zipIdx
def SiRel (w:World) (L:List Ent) (l:List Inf) (i:Value) (wr:World):Prop:=∃ k:Nat,i=.int .i64 k∧k≤l.length∧(∀ j (h:j < l.length),j < k→wrongI L (names l) j l[j]=0)∧Below w.heap.size w wr
theorem wrongL_at {L:List Ent} {l:List Inf} {k:Nat} (hk:k < l.length) (h:∀ j (hj:j < l.length),j < k→wrongI L (names l) j l[j]=0) (hne:wrongI L (names l) k l[k] ≠ 0):wrongL L l=wrongI L (names l) k l[k]:=by
 unfold wrongL
 have hk2:k < l.zipIdx.length:=by simpa using hk
 rw [firstE_at (l:=l.zipIdx) (k:=k) hk2 (fun j hj hjk=>by
  have hj2:j < l.length:=by simpa using hj
  simp only [List.getElem_zipIdx,Nat.zero_add]
  exact h j hj2 hjk) (by simp only [List.getElem_zipIdx,Nat.zero_add]; exact hne)]
 simp only [List.getElem_zipIdx,Nat.zero_add]
theorem wrongL_zero {L:List Ent} {l:List Inf} (h:∀ j (hj:j < l.length),wrongI L (names l) j l[j]=0):wrongL L l=0:=by
 unfold wrongL
 exact firstE_zero fun j hj=>by
  have hj2:j < l.length:=by simpa using hj
  simp only [List.getElem_zipIdx,Nat.zero_add]
  exact h j hj2
end Env
theorem searchI_any {B:Nat} {w:World} {P E e:Nat} {L:List Ent} (l:List Inf) (lo:Option Addr) (lc:Nat) (h:KC0 B w P E e L (names l)) (hr:InfRow w.heap.size w lo l) (hl:l.length≤1000000) (hrs:∀ x ∈ l,x.rules.length≤1000) :
 Calls Tryz.prog 95 #[.slice lo l.length lc,.func (.func 96) #[] #[.pointer (some ⟨E,0,none⟩),.pointer (some ⟨P,0,none⟩)]] w fun y w'=>y=.returned (.int .i64 (wrongL L l))∧Below w.heap.size w w':=by
 have HU:=hid (fun (W:World) (hW:Below w.heap.size w W) (k:Nat) (hk:k < l.length) (hd:IHd) (hin:l[k].In W.heap.size W hd)=>wrongOne_any (i:=k) (h.below hW) hin (by rw [names_len]; exact hl) (List.mem_map.2 ⟨l[k],List.getElem_mem hk,rfl⟩) (hrs _ (List.getElem_mem hk)))
 have HR:=hid hr
 have HL:=hid hl
 have HKI:=hid infoInf
 obtain ⟨G,hG⟩:∃ G,G=wrongL L l:=⟨_,rfl⟩
 rw [← hG]
 have HG:=hid hG
 clear h hr hl hrs hG
 go_enter Tryz.func95,Tryz.ntmps95
 go_wp2_with fail
 go_loopw [10] (fun i wr=>SiRel w L l i wr) (fun i _=>l.length - (intOf i).toNat)
 case atStart=>exact ⟨0,rfl,by omega,fun j _ hj=>by omega,Below.refl _ _⟩
 case round =>
  obtain ⟨k,rfl,hk,hall,hbel⟩:=hrel
  have HALL:=hid hall
  have HBEL:=hid hbel
  clear hall hbel
  by_cases hlt:k < l.length
  ·obtain ⟨b,off,hd,hlo,hb,hrg,hin⟩:=(HR.out.below HBEL.out).place k hlt
   subst hlo
   have HIN:=hid (hin.mono HBEL.out.size)
   have HUK:=hid (fun (W:World) (hW:Below wr.heap.size wr W)=>HU.out W (Trm.go HBEL.out hW) k hlt hd (Inf.carry HIN.out hW))
   have HNO:Hid (wrongI L (names l) k l[k] ≠ 0→wrongI L (names l) k l[k]=G):=hid (fun hh=>by rw [HG.out]; exact (wrongL_at hlt HALL.out hh).symm)
   have HYE:Hid (wrongI L (names l) k l[k]=0→∀ j (h:j < l.length),j < k + 1→wrongI L (names l) j l[j]=0):=hid (fun hh j hj hjk=>by
    by_cases e:j=k
    ·subst e; exact hh
    ·exact HALL.out j hj (by omega))
   obtain ⟨z,hz⟩:∃ z,z=wrongI L (names l) k l[k]:=⟨_,rfl⟩
   rw [← hz] at HUK HNO HYE
   obtain ⟨cs,hcs⟩:∃ cs,cs=l[k].vals hd:=⟨_,rfl⟩
   have hcl:cs.length=25:=by rw [hcs]; rfl
   have hone:cs.toArray.all (·.oneCell')=true:=by rw [hcs]; kernel_rfl
   rw [← hcs] at hrg HUK
   clear hz hcs hin
   have HRG:=hid hrg
   have HCL:Hid ((Tryz.prog.info? 53).map (·.size)=some cs.length):=hid (by rw [HKI.out,hcl])
   have HCA:Hid ((Tryz.prog.info? 53).map (·.size)=some cs.toArray.size):=hid (by rw [HKI.out,List.size_toArray,hcl])
   have HC25:Hid (Inf.zeros.size=cs.toArray.size):=hid (by show (25:Nat)=cs.toArray.size; rw [List.size_toArray,hcl])
   have HONE:=hid hone
   obtain ⟨WA,hWA⟩:∃ WA,WA=wr.alloc (.cells cs.toArray 53):=⟨_,rfl⟩
   have HBA:=hid (show Below wr.heap.size wr WA from hWA ▸ below_one _ _)
   have HBX:=hid (show WA.rangeAt wr.heap.size 0 cs from fun j v hv=>by
    have hn:WA.heap[wr.heap.size]?=some (.cells cs.toArray 53):=hWA ▸ World.alloc_heap_new wr _
    rw [Nat.zero_add]
    unfold World.cell?
    simp [hn]
    exact hv)
   have HBW:=hid (Trm.go HBEL.out HBA.out)
   have HLT:=hid hlt
   clear hrg hcl hone
   go_upto_region 4 with (first
    | (refine wpList_load_mid rfl 53 (.tmp 13) rfl b (off + k * 25) rfl cs _ HRG.out Tryz.underlying53 rfl HCL.out ?_)
    | (refine wpList_store_row rfl 53 (.tmp 6) (.tmp 14) rfl wr.heap.size cs.toArray rfl rfl 53 Inf.zeros (World.alloc_heap_new wr _) HCA.out HC25.out HONE.out ?_))
   rw [World.setRow_alloc_new,← hWA]
   clear hWA
   go_wp2_with (refine wpList_load_mid rfl 53 (.tmp 6) rfl wr.heap.size 0 rfl cs _ HBX.out Tryz.underlying53 rfl HCL.out ?_)
   refine (HUK.out WA HBA.out).mono ?_
   rintro y w2 ⟨rfl,b2⟩
   have HB2:=hid (Trm.go HBW.out b2)
   clear b2 HUK
   by_cases hz0:z=0
   ·subst hz0
    have HE:=hid (HYE.out rfl)
    have hwk:wrap64 ((k:Int) + 1)=(k:Int) + 1:=IntWalk.wrap64_in _ (by have:=HL.out; have:=HLT.out; omega)
    go_wp2_with fail
    go_roundw
    case rel=>exact ⟨k + 1,by rw [hwk]; rfl,HLT.out,HE.out,HB2.out⟩
    case measure=>exact less_step hwk HLT.out
   ·have HE:=hid (HNO.out hz0)
    have hz1:(z == 0)=false:=by simpa using hz0
    go_wp2_with fail
    go_ret
    exact ⟨by rw [← HE.out]; rfl,HB2.out⟩
  ·have HE:Hid ((0:Int)=G):=hid (by
    rw [HG.out]
    exact (wrongL_zero fun j hj=>HALL.out j hj (by omega)).symm)
   go_wp2_with fail
   go_ret
   exact ⟨by rw [← HE.out]; rfl,HBEL.out⟩
theorem wrong_any {B:Nat} {w:World} {e:Nat} {L:List Ent} {mo:Option Nat} {v:Value} (h:EnvB B w e L mo v) (l:List Inf) (lo:Option Addr) (lc:Nat) (hr:InfRow w.heap.size w lo l) (hl:l.length≤1000000) (hrs:∀ x ∈ l,x.rules.length≤1000) :
 Calls Tryz.prog 59 #[.pointer (some ⟨e,0,none⟩),.slice lo l.length lc] w fun y w'=>y=.returned (.int .i64 (wrongL L l))∧Below w.heap.size w w':=by
 obtain ⟨WA,hWA⟩:∃ WA,WA=w.alloc (.cells #[.pointer (some ⟨e,0,none⟩)] 26):=⟨_,rfl⟩
 have HBA:=hid (show Below w.heap.size w WA from hWA ▸ below_one _ _)
 have HE:=hid (show WA.heap[w.heap.size]?=some (.cells #[.pointer (some ⟨e,0,none⟩)] 26) from hWA ▸ World.alloc_heap_new _ _)
 have HENV:=hid (h.below HBA.out)
 have HR:=hid (hr.carry HBA.out)
 have HP:=hid (placesOf_any l lo lc WA HR.out hl)
 have HL:=hid hl
 have HRS:=hid hrs
 clear h hr hl hrs
 go_enter Tryz.func59,Tryz.ntmps59
 go_upto_region 1 with fail
 rw [← hWA]
 clear hWA
 go_wp2_with fail
 refine HP.out.mono ?_
 rintro y w1 ⟨m,n,D,rfl,hown,htied,hge,b1⟩
 obtain ⟨W2,hW2⟩:∃ W2,W2=w1.alloc (.cells #[.map (some m)] 148):=⟨_,rfl⟩
 have HB12:=hid (show Below w1.heap.size w1 W2 from hW2 ▸ below_one _ _)
 have HB2:=hid (Trm.go b1 HB12.out)
 have HKC:=hid (show KC0 B W2 w1.heap.size w.heap.size e L (names l) from
  ⟨⟨m,n,D,hW2 ▸ World.alloc_heap_new _ _,hW2 ▸ hown.alloc _,htied⟩,(HB2.out.block _ (Array.getElem?_eq_some_iff.1 HE.out).1).trans HE.out,mo,v,HENV.out.below HB2.out⟩)
 have HS:=hid (searchI_any l lo lc HKC.out (HR.out.carry HB2.out) HL.out HRS.out)
 have HBW:=hid (Trm.go HBA.out HB2.out)
 clear hown htied hge b1
 go_upto_region 2 with fail
 rw [← hW2]
 clear hW2
 go_wp2_with fail
 refine HS.out.mono ?_
 rintro y w3 ⟨rfl,b3⟩
 have HB3:=hid (Trm.go HBW.out b3)
 clear b3
 go_wp2_with fail
 go_ret
 exact ⟨rfl,HB3.out⟩
end Go.Proofs.YtmngddomnaaedaaGreat
namespace Go.Proofs.YtmngddomnaaedaaGreat
open Go.RowKit Go.Shelf Go.Maps Lvl Trm Env
namespace Env
theorem infoRule:(Tryz.prog.info? 64).map (fun i=>(i.zero,i.size,i.bytes))=some (some (.agg #[.string ⟨#[]⟩,.int .i64 0,.int .u8 0,.int .i64 0,.string ⟨#[]⟩,.slice none 0 0,.slice none 0 0]),7,104):=by kernel_rfl
def flatR (ps:List (Rl × Hd)):List Value:=ps.flatMap fun p=>p.1.vals p.2
theorem flatR_len:∀ ps:List (Rl × Hd),(flatR ps).length=ps.length * 7
 | []=>rfl
 | p :: r=>by
   have h1:=flatR_len r
   unfold flatR at h1 ⊢
   rw [List.flatMap_cons,List.length_append,h1,Rl.len,List.length_cons]
   omega
theorem flatR_at:∀ (ps:List (Rl × Hd)) (i:Nat) (hi:i < ps.length) (j:Nat),j < 7→(flatR ps)[i * 7 + j]?=(ps[i].1.vals ps[i].2)[j]?
 | p :: r,0,_,j,hj=>by
   unfold flatR
   rw [List.flatMap_cons,List.getElem?_append_left (by rw [Rl.len]; omega)]
   simp
 | p :: r,i + 1,hi,j,hj=>by
   have h1:=flatR_at r i (by simpa using hi) j hj
   unfold flatR at h1 ⊢
   rw [List.flatMap_cons,List.getElem?_append_right (by rw [Rl.len]; omega),Rl.len,show (i + 1) * 7 + j - 7=i * 7 + j by omega,h1]
   simp
theorem flatR_one (ps:List (Rl × Hd)):∀ u ∈ flatR ps,u.oneCell'=true:=by
 intro u hu
 unfold flatR at hu
 rw [List.mem_flatMap] at hu
 obtain ⟨p,_,hp⟩:=hu
 simp [Rl.vals,five] at hp
 rcases hp with rfl | rfl | rfl | rfl | rfl | rfl | rfl <;> rfl
theorem FirmR.heads {P:Nat→Prop} {w:World} {ro:Option Addr} {rs:List Rl} (h:FirmR P w ro rs):∃ ps:List (Rl × Hd),ps.map (·.1)=rs∧∀ k (hk:k < ps.length),∃ b off,ro=some ⟨b,off,none⟩∧b < w.heap.size∧w.rangeAt b (off + k * 7) (ps[k].1.vals ps[k].2)∧FirmS P w ps[k].1.body ps[k].2:=by
 have hx:∀ k:Fin rs.length,∃ hd,∃ b off,ro=some ⟨b,off,none⟩∧b < w.heap.size∧w.rangeAt b (off + k * 7) (rs[k].vals hd)∧FirmS P w rs[k].body hd:=fun k=>by
  obtain ⟨b,off,hd,h1,h2,_,h4,h5⟩:=h.place k k.2
  exact ⟨hd,b,off,h1,h2,h4,h5⟩
 refine ⟨List.ofFn fun k:Fin rs.length=>(rs[k],(hx k).choose),?_,fun k hk=>?_⟩
 ·refine List.ext_getElem (by simp) fun i h1 h2=>?_
  simp
 ·have hk2:k < rs.length:=by simpa using hk
  simp only [List.getElem_ofFn]
  exact (hx ⟨k,hk2⟩).choose_spec
def ClPost (P:Nat→Prop) (rs:List Rl) (w:World) (e:Ending) (w':World):Prop:=∃ ro rc,e=.returned (.slice ro rs.length rc)∧FirmR P w' ro rs∧Below w.heap.size w w'
theorem firmR_row {P:Nat→Prop} {w':World} {v:Value} {ps:List (Rl × Hd)} {base:Nat} (hown:w'.ownsRow base 64 7 v ps.length (flatR ps)) (hb:∀ q,P q→q < base) (hf:∀ k (hk:k < ps.length),FirmS P w' ps[k].1.body ps[k].2):∃ ro rc,v=.slice ro ps.length rc∧FirmR P w' ro (ps.map (·.1)):=by
 rcases hown.2 with ⟨hv,h0⟩ | ⟨g,cap,cur,rfl,hbg,hg,rest⟩
 ·refine ⟨none,0,by rw [hv,h0],⟨fun k hk=>?_⟩⟩
  simp at hk; omega
 ·refine ⟨_,cap,rfl,⟨fun k hk=>?_⟩⟩
  have hk2:k < ps.length:=by simpa using hk
  have hgl:g < w'.heap.size:=(Array.getElem?_eq_some_iff.1 hg).1
  refine ⟨g,0,ps[k].2,rfl,hgl,fun hp=>by have:=hb g hp; omega,fun j u hu=>?_,?_⟩
  ·have hj:j < 7:=by have:=(List.getElem?_eq_some_iff.1 hu).1; rw [Rl.len] at this; exact this
   have h1:=hown.cells (g:=g) rfl (k * 7 + j) u (by rw [flatR_at ps k hk2 j hj]; simpa using hu)
   rw [Addr.add_mid] at h1
   rw [show 0 + k * 7 + j=0 + (k * 7 + j) by omega]
   exact h1
  ·simpa using hf k hk2
end Env
theorem CloneR_any {P:Nat→Prop} {w:World} (rs:List Rl) (ro:Option Addr) (rc:Nat) (hf:FirmR P w ro rs) (hP:∀ q,P q→q < w.heap.size) (hn:rs.length≤1000):Calls Tryz.prog 93 #[.slice ro rs.length rc] w (ClPost P rs w):=by
 have q22:∀ (w:World) (a:Option Addr) (n c n' c':Nat),(binOp .eql 51 (.slice a n c) (.slice none n' c')).run Tryz.prog w=.ok (.bool a.isNone) w:=fun w a n c n' c'=>Lib.run_eql_slice_nil w _ _ a n c n' c' Tryz.underlying51
 cases ro with
 | none =>
   have hr0:rs.length=0:=by
    rcases Nat.eq_zero_or_pos rs.length with h | h
    ·exact h
    ·obtain ⟨_,_,_,h1,_⟩:=hf.place 0 h
     cases h1
   have HPO:Hid (ClPost P rs w (.returned (.slice none 0 0)) w):=hid ⟨none,0,by rw [hr0],hf,Below.refl _ _⟩
   clear hf hP hn hr0
   go_enter Tryz.func93,Tryz.ntmps93
   go_wp2_with fail
   go_ret
   exact HPO.out
 | some ad =>
   obtain ⟨i0,hi,hz0,hz1,hz2⟩:=info_parts infoRule
   obtain ⟨ps,hps,hat⟩:=hf.heads
   have hlen:rs.length=ps.length:=by rw [← hps,List.length_map]
   have HC:Hid (∀ j u,(flatR ps)[j]?=some u→w.cell? (ad.add j)=some u):=hid (fun j u hj=>by
    have hjl:j < ps.length * 7:=by rw [← flatR_len]; exact (List.getElem?_eq_some_iff.1 hj).1
    have hk:j / 7 < ps.length:=by omega
    have hq:j % 7 < 7:=Nat.mod_lt _ (by omega)
    have e:=flatR_at ps (j / 7) hk (j % 7) hq
    rw [show j / 7 * 7 + j % 7=j by omega,hj] at e
    obtain ⟨b,off,had,_,hrg,_⟩:=hat (j / 7) hk
    injection had with had
    subst had
    rw [Addr.add_mid]
    have:=hrg (j % 7) u e.symm
    rwa [show off + j / 7 * 7 + j % 7=off + j by omega] at this)
   have HFS:=hid (fun k (hk:k < ps.length)=>(hat k hk).choose_spec.choose_spec.2.2.2)
   have HPS:=hid hps
   have HPW:=hid hP
   rw [hlen]
   have hn2:ps.length≤1000:=by omega
   have HN:=hid hn2
   clear hf hP hn hat hps hlen hn2
   go_enter Tryz.func93,Tryz.ntmps93
   go_wp2_with (at_builtin; refine wpList_append_own _ rfl _ _ 51 rfl w.heap.size 64 i0 _ 7 104 Tryz.underlying51 hi hz0 hz1 hz2 rfl (by decide) _ _ _ rfl (World.ownsRow_made w #[] 0 (Nat.le_refl _) (Nat.zero_le _) (by simp)) ad ps.length rc (flatR ps) rfl ?c1 ?c2 ?c3 ?c4 ?c5 ?c6 ?_)
   case c1=>rw [flatR_len]
   case c2 =>
    intro j u hj
    exact Lib.cell?_alloc_some _ (HC.out j u hj)
   case c3=>exact flatR_one ps
   case c4=>unfold maxLen; have:=HN.out; omega
   case c5=>have:=HN.out; omega
   case c6=>simp
   intro v' w1 hown hgrow hnil
   have ho0:(w.alloc (.cells #[] 64)).ownsRow w.heap.size 64 7 (.slice (some ⟨w.heap.size,0,none⟩) 0 0) 0 []:=World.ownsRow_made w #[] 0 (Nat.le_refl _) (Nat.zero_le _) (by simp)
   have hbel:=(below_one w (.cells #[] 64)).trans (below_own ho0 hgrow (by simp))
   obtain ⟨ro',rc',hv,hfr⟩:=firmR_row hown HPW.out (fun k hk=>(HFS.out k hk).step (RanS.of_below hbel))
   have HPO:Hid (ClPost P rs w (.returned (.slice ro' ps.length rc')) w1):=hid ⟨ro',rc',by rw [← HPS.out,List.length_map],by rw [← HPS.out]; exact hfr,hbel⟩
   subst hv
   clear ho0 hgrow hnil hown hfr hbel
   go_wp2_with fail
   go_ret
   exact HPO.out
namespace Env
theorem vals_rules (x:Inf) (h:IHd) (ro:Option Addr) (rc:Nat):(x.vals h).toArray.setIfInBounds 22 (.slice ro x.rules.length rc)=(x.vals { h with ro:=ro,rc:=rc }).toArray:=rfl
theorem vals_one (x:Inf) (h:IHd):(x.vals h).toArray.all (·.oneCell')=true:=by kernel_rfl
theorem FirmI.rules_new {P:Nat→Prop} {w w':World} {x:Inf} {h:IHd} (f:FirmI P w x h) (b:Below w.heap.size w w') {ro:Option Addr} {rc:Nat} (hr:FirmR P w' ro x.rules):FirmI P w' x { h with ro:=ro,rc:=rc } :=
 ⟨f.fit,f.ty.step (RanS.of_below b),f.va.step (RanS.of_below b),hr⟩
def OwPost (P:Nat→Prop) (x:Inf) (w:World) (e:Ending) (w':World):Prop:=∃ h,e=.returned (.agg (x.vals h).toArray)∧FirmI P w' x h∧Below w.heap.size w w'
end Env
theorem owned_any {P:Nat→Prop} {w:World} (x:Inf) (h:IHd) (hf:FirmI P w x h) (hP:∀ q,P q→q < w.heap.size) (hn:x.rules.length≤1000):Calls Tryz.prog 58 #[.agg (x.vals h).toArray] w (OwPost P x w):=by
 obtain ⟨W0,hW0⟩:∃ W0,W0=(w.alloc (.cells (x.vals h).toArray 53)).alloc (.cells Inf.zeros 53):=⟨_,rfl⟩
 have HB0:=hid (show Below w.heap.size w W0 from hW0 ▸ below_two _ _ _)
 have HX0:=hid (show IBox W0 w.heap.size x h from hW0 ▸ new1of2 _ _ _)
 have HZ0:=hid (show W0.heap[w.heap.size + 1]?=some (.cells Inf.zeros 53) from hW0 ▸ new2 _ _ _)
 obtain ⟨P2,hP2⟩:∃ P2:Nat→Prop,P2=fun q=>P q∨q=w.heap.size∨q=w.heap.size + 1:=⟨_,rfl⟩
 have hz1:W0.heap.size=w.heap.size + 2:=by rw [hW0]; simp
 have HF0:=hid (show FirmI P2 W0 x h from hf.turn (RanS.of_below HB0.out) (fun q hq=>by rw [hP2] at hq; rcases hq with e | e | e; exact Or.inl e; exact Or.inr (by omega); exact Or.inr (by omega)))
 have HC:=hid (CloneR_any x.rules h.ro h.rc HF0.out.rules (fun q hq=>by rw [hP2] at hq; rcases hq with e | e | e; have:=hP q e; omega; omega; omega) hn)
 have HPA:=hid (show P2 w.heap.size from by rw [hP2]; exact Or.inr (Or.inl rfl))
 have HPB:=hid (show P2 (w.heap.size + 1) from by rw [hP2]; exact Or.inr (Or.inr rfl))
 have HPS:=hid (show ∀ q,P q→P2 q from fun q hq=>by rw [hP2]; exact Or.inl hq)
 have HKI:Hid ((Tryz.prog.info? 53).map (·.size)=some 25):=hid infoInf
 clear hz1 hP2
 have c22:W0.cell? ⟨w.heap.size,22,none⟩=some (.slice h.ro x.rules.length h.rc):=HX0.out.cell 22
 have hz0:W0.heap.size=w.heap.size + 2:=by rw [hW0]; simp
 have HSZ:=hid hz0
 clear hf hP hn hz0
 unfold Inf.zeros at hW0
 go_enter Tryz.func58,Tryz.ntmps58
 go_upto_region 1 with fail
 rw [← hW0]
 clear hW0
 go_wp2_with fail
 refine HC.out.mono ?_
 rintro y w1 ⟨ro,rc,rfl,hfr,b1⟩
 have HB1:=hid (Trm.go HB0.out b1)
 have HX1:=hid (HX0.out.keep b1)
 have HZ1:=hid (Lvl.keep b1 HZ0.out)
 have HF1:=hid (HF0.out.rules_new b1 (rc:=rc) hfr)
 obtain ⟨W2,hW2⟩:∃ W2,W2=w1.setCell ⟨w.heap.size,22,none⟩ (.slice ro x.rules.length rc):=⟨_,rfl⟩
 have HR2:=hid (show RanS (fun q=>q=w.heap.size) w1 W2 from hW2 ▸ set_ranE _ _ _ _ rfl)
 have HX2:=hid (show IBox W2 w.heap.size x { h with ro:=ro,rc:=rc } from by
  have h1:=cells_setE (i:=22) (show w1.heap[w.heap.size]?=some (.cells (x.vals h).toArray 53) from HX1.out) (.slice ro x.rules.length rc)
  rw [vals_rules] at h1
  rw [hW2]; exact h1)
 have HZ2:=hid (HR2.out.keep HZ1.out (by omega))
 have HB2:=hid (HB1.out.trans (HR2.out.below (fun q hq=>by omega) HB1.out.size))
 have HF2:=hid (HF1.out.step (HR2.out.wide (fun q hq=>by rw [hq]; exact HPA.out)))
 have cx:w1.cell? ⟨w.heap.size,22,none⟩=some (.slice h.ro x.rules.length h.rc):=HX1.out.cell 22
 have fx:w1.frozen? ⟨w.heap.size,22,none⟩=false:=by
  have h1:w1.heap[w.heap.size]?=some (.cells (x.vals h).toArray 53):=HX1.out
  simp [World.frozen?,h1]
 clear hfr b1 c22
 go_upto_region 2 with fail
 rw [← hW2]
 clear hW2 cx fx
 obtain ⟨cs,hcs⟩:∃ cs,cs=x.vals { h with ro:=ro,rc:=rc }:=⟨_,rfl⟩
 have hcl:cs.length=25:=by rw [hcs]; rfl
 have HONE:=hid (show cs.toArray.all (·.oneCell')=true from by rw [hcs]; exact vals_one _ _)
 have HRG:=hid (show W2.rangeAt w.heap.size 0 cs from by rw [hcs]; exact HX2.out.range)
 have HCL:Hid ((Tryz.prog.info? 53).map (·.size)=some cs.length):=hid (by rw [HKI.out,hcl])
 have HCA:Hid ((Tryz.prog.info? 53).map (·.size)=some cs.toArray.size):=hid (by rw [HKI.out,List.size_toArray,hcl])
 have HC25:Hid (Inf.zeros.size=cs.toArray.size):=hid (by show (25:Nat)=cs.toArray.size; rw [List.size_toArray,hcl])
 have HPO:=hid (show OwPost P x w (.returned (.agg cs.toArray)) (W2.setRow (w.heap.size + 1) cs.toArray) from by
  have hr3:RanS P2 W2 (W2.setRow (w.heap.size + 1) cs.toArray):=by
   have hb:=below_setRow (Below.refl (w.heap.size + 1) W2) (Nat.le_refl _) cs.toArray
   refine ⟨hb.os,hb.tape,hb.output,hb.size,fun q _ hq=>?_⟩
   have hne:q ≠ w.heap.size + 1:=fun e=>hq (e ▸ HPB.out)
   simp [World.setRow,Array.getElem?_modify,Ne.symm hne]
  exact ⟨{ h with ro:=ro,rc:=rc },by rw [hcs],(HF2.out.step hr3).turn (RanS.refl _ _) (fun q hq=>Or.inl (HPS.out q hq)),below_setRow HB2.out (by omega) _⟩)
 clear hcs hcl
 go_wp2_with (first
  | (refine wpList_load_mid rfl 53 (.tmp 1) rfl w.heap.size 0 rfl cs _ HRG.out Tryz.underlying53 rfl HCL.out ?_)
  | (refine wpList_store_row rfl 53 (.tmp 2) (.tmp 7) rfl (w.heap.size + 1) cs.toArray rfl rfl 53 Inf.zeros HZ2.out HCA.out HC25.out HONE.out ?_))
 exact bodyPost_ret_by (results_cell_row rfl _ _ (w.heap.size + 1) 53 _ (0,0) _ rfl (setRow_heap W2 _ _ _ _ _ HZ2.out) Tryz.underlying53 rfl HCA.out) rfl HPO.out
end Go.Proofs.YtmngddomnaaedaaGreat
