/-
 env.Add: all of these infos,one behind another,or none.
-/
import Derived.Lib.Hide
import Derived.Test.YtmngddomnaaedaaGreatQB23
import Derived.Test.YtmngddomnaaedaaGreatQB21
import Derived.Test.YtmngddomnaaedaaGreatQB15
import Derived.Laws.CopyOwn
import Derived.Shelf.SlMaps.Clone
open Go.Lib (hid)
set_option maxRecDepth 100000
set_option maxHeartbeats 32000000
namespace Go.Proofs.YtmngddomnaaedaaGreat
open Go.RowKit Go.Shelf Go.Maps Lvl Trm Env
namespace Env
inductive Added (L:List Ent):List Inf→List Ent→Prop where
 | nil:Added L [] L
 | snoc {l:List Inf} {M:List Ent} (x:Inf) (b:Nat) (h:IHd):Added L l M→Added L (l ++ [x]) (M ++ [(b,fixI M x,h)])
theorem Added.len {L M:List Ent} {l:List Inf} (h:Added L l M):M.length=L.length + l.length:=by
 induction h with
 | nil=>rfl
 | snoc x b h _ ih=>simp [ih]; omega
theorem Added.keys {L M:List Ent} {l:List Inf} (h:Added L l M):M.map ekey=L.map ekey ++ names l:=by
 induction h with
 | nil=>simp [names]
 | snoc x b h _ ih=>rw [List.map_append,ih]; simp [names,ekey,fixI]
theorem lookE_not {M:List Ent} {k:List UInt8} (h:k ∉ M.map ekey):lookE M k=none:=by
 unfold lookE
 rw [List.find?_eq_none]
 intro p hp he
 exact h (List.mem_map.2 ⟨p,hp,by simpa using he⟩)
theorem lookE_not' {M:List Ent} {k:List UInt8} (h:lookE M k=none):k ∉ M.map ekey:=fun hk=>by
 obtain ⟨p,hp,he⟩:=List.mem_map.1 hk
 exact lookE_none h p hp he
theorem wrongI_zero {L:List Ent} {ks:List (List UInt8)} {i:Nat} {x:Inf} (h:wrongI L ks i x=0):nameOk x.name=true∧lookE L (key x.name)=none∧i≤ks.idxOf (key x.name)∧x.isKind=true∧∀ t ∈ x.terms,t.may=true:=by
 unfold wrongI at h
 split at h
 ·simp at h
 split at h
 ·simp at h
 split at h
 ·simp at h
 split at h
 ·simp at h
 split at h
 ·simp at h
 split at h
 ·simp at h
 split at h
 ·simp at h
 rename_i h1 h2 h3 h4 h5 h6 h7
 refine ⟨by simpa using h1,by simpa using h2,by omega,by simpa using h4,?_⟩
 unfold wrongT at h
 split at h
 ·rename_i h8
  exact open_may h8.symm
 ·rename_i h8; exact absurd h h8
theorem wrongL_all {L:List Ent} {l:List Inf} (h:wrongL L l=0):∀ j (hj:j < l.length),wrongI L (names l) j l[j]=0:=fun j hj=>by
 unfold wrongL at h
 have:=firstE_all h.symm (l[j],j) (by rw [List.mem_zipIdx_iff_getElem?]; simp [hj])
 exact this
theorem names_take_not {l:List Inf} {k:Nat} (hk:k < l.length) (h:k≤(names l).idxOf (key l[k].name)):key l[k].name ∉ names (l.take k):=fun hm=>by
 obtain ⟨x,hx,he⟩:=List.mem_map.1 hm
 obtain ⟨j,hj,rfl⟩:=List.mem_iff_getElem.1 hx
 rw [List.length_take] at hj
 have hj2:j < (names l).length:=by rw [names,List.length_map]; omega
 have h1:(names l)[j]=key l[k].name:=by rw [← he]; simp [names]
 have h3:j < (names l).findIdx (· == key l[k].name):=by
  have:(names l).idxOf (key l[k].name)=(names l).findIdx (· == key l[k].name):=rfl
  omega
 have h2:=List.not_of_lt_findIdx h3
 rw [h1] at h2
 simp at h2
theorem Added.fresh {L M:List Ent} {l:List Inf} {k:Nat} (ha:Added L (l.take k) M) (hw:wrongL L l=0) (hk:k < l.length):lookE M (key l[k].name)=none:=by
 obtain ⟨_,h2,h3,_,_⟩:=wrongI_zero (wrongL_all hw k hk)
 apply lookE_not
 rw [ha.keys,List.mem_append]
 rintro (h | h)
 ·exact lookE_not' h2 h
 ·exact names_take_not hk h3 h
structure InfFirm (P:Nat→Prop) (w:World) (lo:Option Addr) (l:List Inf):Prop where
 place:∀ k (hk:k < l.length),∃ b off hd,lo=some ⟨b,off,none⟩∧b < w.heap.size∧¬ P b∧w.rangeAt b (off + k * 25) (l[k].vals hd)∧FirmI P w l[k] hd
theorem InfFirm.turn {P P':Nat→Prop} {w w':World} {lo:Option Addr} {l:List Inf} (h:InfFirm P w lo l) (hr:RanS P w w') (hP:∀ q,P' q→P q∨w.heap.size≤q):InfFirm P' w' lo l:=⟨fun k hk=>by
 obtain ⟨b,off,hd,h1,h2,h3,h4,h5⟩:=h.place k hk
 exact ⟨b,off,hd,h1,Nat.lt_of_lt_of_le h2 hr.size,fun hp=>by rcases hP b hp with a | a; exact h3 a; omega,range_ran h4 hr h2 h3,h5.turn hr hP⟩⟩
theorem InfFirm.here {P:Nat→Prop} {w:World} {lo:Option Addr} {l:List Inf} (h:InfFirm P w lo l):InfRow w.heap.size w lo l:=⟨fun k hk=>by
 obtain ⟨b,off,hd,h1,h2,_,h4,h5⟩:=h.place k hk
 exact ⟨b,off,hd,h1,h2,h4,h5.here⟩⟩
theorem InfFirm.of {P:Nat→Prop} {B:Nat} {w:World} {lo:Option Addr} {l:List Inf} (h:InfRow B w lo l) (hm:∀ k,P k→B≤k) (hB:B≤w.heap.size):InfFirm P w lo l:=⟨fun k hk=>by
 obtain ⟨b,off,hd,h1,h2,h3,h4⟩:=h.place k hk
 exact ⟨b,off,hd,h1,by omega,fun hp=>by have:=hm b hp; omega,h3,FirmI.of h4 hm hB⟩⟩
def AddRel (P:Nat→Prop) (B e:Nat) (L:List Ent) (mo:Option Nat) (v:Value) (w:World) (lo:Option Addr) (l:List Inf) (k:Nat) (W:World):Prop :=
 ∃ M mo' v',Added L (l.take k) M∧EnvB B W e M mo' v'∧InfFirm (fun q=>P q∨ownE e v' mo' q) W lo l∧(∀ q,ownE e v' mo' q→ownE e v mo q∨w.heap.size≤q)∧RanS (ownE e v mo) w W∧(∀ p ∈ M,p ∈ L∨(w.heap.size≤p.1∧FirmI (fun q=>P q∨ownE e v' mo' q) W p.2.1 p.2.2))
def AddPost (P:Nat→Prop) (B e:Nat) (L:List Ent) (mo:Option Nat) (v:Value) (w:World) (l:List Inf) (y:Ending) (W:World):Prop :=
 (4096 < L.length + l.length∧y=.returned (.int .i64 4)∧Below w.heap.size w W) ∨
 (L.length + l.length≤4096∧wrongL L l ≠ 0∧y=.returned (.int .i64 (wrongL L l))∧Below w.heap.size w W) ∨
 (L.length + l.length≤4096∧wrongL L l=0∧y=.returned (.int .i64 0)∧∃ M mo' v',Added L l M∧EnvB B W e M mo' v'∧(∀ q,ownE e v' mo' q→ownE e v mo q∨w.heap.size≤q)∧RanS (ownE e v mo) w W∧(∀ p ∈ M,p ∈ L∨(w.heap.size≤p.1∧FirmI (fun q=>P q∨ownE e v' mo' q) W p.2.1 p.2.2)))
theorem name_len {s:ByteArray} (h:nameOk s=true):s.size≤maxLen:=by
 by_cases h2:32 < s.size
 ·rw [nameOk_no (Or.inr h2)] at h; cases h
 ·exact Nat.le_trans (Nat.not_lt.1 h2) (by decide)
theorem AddRel.zero {P:Nat→Prop} {B:Nat} {w W:World} {e:Nat} {L:List Ent} {mo:Option Nat} {v:Value} {lo:Option Addr} {l:List Inf} (h:EnvB B w e L mo v) (hPo:∀ q,ownE e v mo q→P q) (hr:InfFirm P w lo l) (hb:Below w.heap.size w W):AddRel P B e L mo v w lo l 0 W :=
 ⟨L,mo,v,by simpa using Added.nil,h.below hb,hr.turn (RanS.of_below hb) (fun q a=>Or.inl (a.elim id (hPo q))),fun _ a=>Or.inl a,RanS.of_below hb,fun p hp=>Or.inl hp⟩
theorem AddRel.less {P:Nat→Prop} {B:Nat} {w W W2:World} {e k:Nat} {L:List Ent} {mo:Option Nat} {v:Value} {lo:Option Addr} {l:List Inf} (h:AddRel P B e L mo v w lo l k W) (hb:Below W.heap.size W W2):AddRel P B e L mo v w lo l k W2:=by
 obtain ⟨M,mo',v',h1,h2,h3,h4,h5,h6⟩:=h
 exact ⟨M,mo',v',h1,h2.below hb,h3.turn (RanS.of_below hb) (fun _ a=>Or.inl a),h4,h5.trans (RanS.of_below hb),fun p hp=>(h6 p hp).imp id (fun a=>⟨a.1,a.2.turn (RanS.of_below hb) (fun _ a=>Or.inl a)⟩)⟩
theorem AddRel.next {P:Nat→Prop} {B:Nat} {w W:World} {e k:Nat} {L:List Ent} {mo:Option Nat} {v:Value} {lo:Option Addr} {l:List Inf} (h:AddRel P B e L mo v w lo l k W) (hPl:∀ q,P q→q < w.heap.size) (hk:k < l.length) (hw:wrongL L l=0) (hn:L.length + l.length≤4096) (hrs:∀ x ∈ l,x.rules.length≤1000) :
 ∃ b off hd,lo=some ⟨b,off,none⟩∧W.rangeAt b (off + k * 25) (l[k].vals hd)∧b < W.heap.size ∧
   ∀ W2,Below W.heap.size W W2→Calls Tryz.prog 60 #[.pointer (some ⟨e,0,none⟩),.agg (l[k].vals hd).toArray] W2 fun y W3=>y=.returned (.tuple #[])∧AddRel P B e L mo v w lo l (k + 1) W3:=by
 obtain ⟨M,mo',v',h1,h2,h3,h4,h5,h6⟩:=h
 obtain ⟨b,off,hd,g1,g2,g3,g4,g5⟩:=h3.place k hk
 obtain ⟨q1,_,_,q4,q5⟩:=wrongI_zero (wrongL_all hw k hk)
 have hlen:=h1.len
 rw [List.length_take] at hlen
 refine ⟨b,off,hd,g1,g4,g2,fun W2 hb=>?_⟩
 have hs5:=h5.size
 have hsb:=hb.size
 have hPW:∀ q,(P q∨ownE e v' mo' q)→q < W2.heap.size:=fun q hq=>by
  rcases hq with a | a
  ·have:=hPl q a; omega
  ·have:=h2.own_lt q a; omega
 refine (put_any (P:=fun q=>P q∨ownE e v' mo' q) (h2.below hb) (fun q a=>Or.inr a) hPW l[k] hd (g5.step (RanS.of_below hb)) (hrs _ (List.getElem_mem hk)) (name_len q1) (h1.fresh hw hk) (fun h2=>q5 _ (by simp [Inf.terms,Inf.hv,h2])) (by omega)).mono ?_
 rintro y W3 ⟨rfl,mo2,v2,h',r1,r2,r3,r4⟩
 have hr3:RanS (fun q=>P q∨ownE e v' mo' q) W W3:=(RanS.of_below hb).trans (r3.wide (fun q a=>Or.inr a))
 have hP3:∀ q,(P q∨ownE e v2 mo2 q)→(P q∨ownE e v' mo' q)∨W.heap.size≤q:=fun q hq=>by
  rcases hq with a | a
  ·exact Or.inl (Or.inl a)
  ·exact (r2 q a).imp Or.inr (fun a=>by omega)
 refine ⟨rfl,M ++ [(W2.heap.size,fixI M l[k],h')],mo2,v2,?_,r1,?_,?_,?_,?_⟩
 ·rw [← List.take_append_getElem hk]
  exact .snoc _ _ _ h1
 ·exact h3.turn hr3 hP3
 ·intro q hq
  rcases r2 q hq with a | a
  ·exact h4 q a
  ·exact Or.inr (by omega)
 ·exact ran_goE (h5.trans (RanS.of_below hb)) r3 h4
 ·intro p hp
  rcases List.mem_append.1 hp with hp | hp
  ·exact (h6 p hp).imp id (fun a=>⟨a.1,a.2.turn hr3 hP3⟩)
  ·simp at hp
   subst hp
   exact Or.inr ⟨by omega,r4.turn (RanS.refl _ _) (fun q hq=>Or.inl (hq.elim (fun a=>Or.inl (Or.inl a)) Or.inr))⟩
end Env
theorem add_any {P:Nat→Prop} {B:Nat} {w:World} {e:Nat} {L:List Ent} {mo:Option Nat} {v:Value} (h:EnvB B w e L mo v) (l:List Inf) (lo:Option Addr) (lc:Nat) (hPo:∀ q,ownE e v mo q→P q) (hPl:∀ q,P q→q < w.heap.size) (hr:InfFirm P w lo l) (hl:l.length≤1000000) (hrs:∀ x ∈ l,x.rules.length≤1000) :
 Calls Tryz.prog 30 #[.pointer (some ⟨e,0,none⟩),.slice lo l.length lc] w (AddPost P B e L mo v w l):=by
 have HENV:=hid h
 have HR:=hid hr
 have HL:=hid hl
 have HRS:=hid hrs
 have HFEW:=hid h.few
 have HPO:=hid hPo
 have HPL:=hid hPl
 clear hPo hPl
 obtain ⟨ao,cp,hv⟩:=row_slice h.row
 have hbox:=h.box
 rw [hv] at hbox
 have c1:w.cell? ⟨e,1,none⟩=some (.slice ao L.length cp):=by simp [World.cell?,hbox]
 have hw4:wrap64 (4096 - (L.length:Int))=4096 - (L.length:Int):=IntWalk.wrap64_in _ (by have:=HFEW.out; omega)
 have HROW:=hid hr.here
 by_cases hmany:4096 < L.length + l.length
 ·have hlt:((4096:Int) - (L.length:Int) < (l.length:Int))=True:=eq_true (by omega)
  have HMANY:=hid hmany
  clear h hr hl hrs hbox hmany
  go_enter Tryz.func30,Tryz.ntmps30
  go_wp2_with fail
  go_ret
  exact Or.inl ⟨HMANY.out,rfl,Below.refl _ _⟩
 ·have hlt:((4096:Int) - (L.length:Int) < (l.length:Int))=False:=eq_false (by omega)
  have HMANY:Hid (L.length + l.length≤4096):=hid (by omega)
  have HZ:Hid (∀ W,Below w.heap.size w W→AddRel P B e L mo v w lo l 0 W):=hid (fun W hW=>AddRel.zero h HPO.out hr hW)
  have HWR:=hid (wrong_any h l lo lc hr.here hl hrs)
  clear h hr hl hrs hbox hmany
  obtain ⟨G,hG⟩:∃ G,G=wrongL L l:=⟨_,rfl⟩
  rw [← hG] at HWR
  have HG:=hid hG
  clear hG
  go_enter Tryz.func30,Tryz.ntmps30
  go_wp2_with fail
  rw [← hv]
  refine HWR.out.mono ?_
  rintro y W1 ⟨rfl,b1⟩
  have HB1:=hid b1
  clear b1 HWR
  by_cases hz0:G=0
  ·have HGZ:Hid (wrongL L l=0):=hid (HG.out.symm.trans hz0)
   subst hz0
   have HKI:=hid infoInf
   have HST:Hid (∃ k:Nat,(Value.int .i64 0)=.int .i64 k∧k≤l.length∧AddRel P B e L mo v w lo l k W1):=hid ⟨0,rfl,by omega,HZ.out W1 HB1.out⟩
   clear HZ
   go_wp2_with fail
   go_loopw [29] (fun i wr=>∃ k:Nat,i=.int .i64 k∧k≤l.length∧AddRel P B e L mo v w lo l k wr) (fun i _=>l.length - (intOf i).toNat)
   case atStart=>exact HST.out
   case round =>
    obtain ⟨k,rfl,hk,hadd⟩:=hrel
    by_cases hlt2:k < l.length
    ·obtain ⟨b,off,hd,hlo,hrg,hb,hput⟩:=hadd.next HPL.out hlt2 HGZ.out HMANY.out HRS.out
     subst hlo
     have HPUT:=hid hput
     obtain ⟨cs,hcs⟩:∃ cs,cs=l[k].vals hd:=⟨_,rfl⟩
     have hcl:cs.length=25:=by rw [hcs]; rfl
     have hone:cs.toArray.all (·.oneCell')=true:=by rw [hcs]; kernel_rfl
     rw [← hcs] at hrg HPUT
     clear hcs hadd hput
     have HRG:=hid hrg
     have HCL:Hid ((Tryz.prog.info? 53).map (·.size)=some cs.length):=hid (by rw [HKI.out,hcl])
     have HCA:Hid ((Tryz.prog.info? 53).map (·.size)=some cs.toArray.size):=hid (by rw [HKI.out,List.size_toArray,hcl])
     have HC25:Hid (Inf.zeros.size=cs.toArray.size):=hid (by show (25:Nat)=cs.toArray.size; rw [List.size_toArray,hcl])
     have HONE:=hid hone
     obtain ⟨WA,hWA⟩:∃ WA,WA=wr.alloc (.cells cs.toArray 53):=⟨_,rfl⟩
     have HBA:=hid (show Below wr.heap.size wr WA from hWA ▸ below_one _ _)
     have HBX:=hid (show WA.rangeAt wr.heap.size 0 cs from fun j v hv=>by
      have hn:WA.heap[wr.heap.size]?=some (.cells cs.toArray 53):=hWA ▸ World.alloc_heap_new wr _
      rw [Nat.zero_add]
      unfold World.cell?
      simp [hn]
      exact hv)
     have HLT:=hid hlt2
     clear hrg hcl hone
     go_upto_region 11 with (first
      | (refine wpList_load_mid rfl 53 (.tmp 31) rfl b (off + k * 25) rfl cs _ HRG.out Tryz.underlying53 rfl HCL.out ?_)
      | (refine wpList_store_row rfl 53 (.tmp 7) (.tmp 32) rfl wr.heap.size cs.toArray rfl rfl 53 Inf.zeros (World.alloc_heap_new wr _) HCA.out HC25.out HONE.out ?_))
     rw [World.setRow_alloc_new,← hWA]
     clear hWA
     go_wp2_with (refine wpList_load_mid rfl 53 (.tmp 7) rfl wr.heap.size 0 rfl cs _ HBX.out Tryz.underlying53 rfl HCL.out ?_)
     refine (HPUT.out WA HBA.out).mono ?_
     rintro y w2 ⟨rfl,hrel2⟩
     have HREL2:=hid hrel2
     clear hrel2 HPUT
     have hwk:wrap64 ((k:Int) + 1)=(k:Int) + 1:=IntWalk.wrap64_in _ (by have:=HL.out; have:=HLT.out; omega)
     go_wp2_with fail
     go_roundw
     case rel=>exact ⟨k + 1,by rw [hwk]; rfl,HLT.out,HREL2.out⟩
     case measure=>exact less_step hwk HLT.out
    ·have HE:Hid (AddPost P B e L mo v w l (.returned (.int .i64 0)) wr):=hid (by
      obtain ⟨M,mo',v',h1,h2,h3,h4,h5,h6⟩:=hadd
      have hkl:k=l.length:=by omega
      rw [hkl,List.take_length] at h1
      exact Or.inr (Or.inr ⟨HMANY.out,HGZ.out,rfl,M,mo',v',h1,h2,h4,h5,h6⟩))
     clear hadd
     go_wp2_with fail
     go_ret
     exact HE.out
  ·have hz1:(G == 0)=false:=by simpa using hz0
   have HGN:Hid (wrongL L l ≠ 0):=hid (fun hh=>hz0 (HG.out.trans hh))
   go_wp2_with fail
   go_ret
   exact Or.inr (Or.inl ⟨HMANY.out,HGN.out,by rw [← HG.out]; rfl,HB1.out⟩)
end Go.Proofs.YtmngddomnaaedaaGreat
namespace Go.Proofs.YtmngddomnaaedaaGreat
open Go.RowKit Go.Shelf Go.Maps Lvl Trm Env
namespace Env
noncomputable def ofE (L:List Ent) (t:Tm):Int :=
 if t.k=3∧t.may=true then (match lookE L (key t.s) with
  | none=>6
  | some p=>if (t.ls.length:Int)=p.2.1.params then 0 else 8) else 1
noncomputable def ofO (L:List Ent) (t:Tm):Option Ent:=if ofE L t=0 then lookE L (key t.s) else none
def OfPost (L:List Ent) (t:Tm) (w:World) (y:Ending) (w':World):Prop:=y=.returned (.tuple #[ptrV (ofO L t),.int .i64 (ofE L t)])∧Below w.heap.size w w'
theorem of_arg {L:List Ent} {t:Tm} {w w':World} (h:¬ (t.k=3∧t.may=true)) (b:Below w.heap.size w w'):OfPost L t w (.returned (.tuple #[.pointer none,.int .i64 1])) w':=by
 have h1:ofE L t=1:=by unfold ofE; rw [if_neg h]
 have h2:ofO L t=none:=by unfold ofO; rw [h1]; rfl
 exact ⟨by rw [h1,h2]; rfl,b⟩
theorem of_none {L:List Ent} {t:Tm} {w w':World} (h:t.k=3∧t.may=true) (hl:lookE L (key t.s)=none) (b:Below w.heap.size w w'):OfPost L t w (.returned (.tuple #[.pointer none,.int .i64 6])) w':=by
 have h1:ofE L t=6:=by unfold ofE; rw [if_pos h,hl]
 have h2:ofO L t=none:=by unfold ofO; rw [h1]; rfl
 exact ⟨by rw [h1,h2]; rfl,b⟩
theorem of_level {L:List Ent} {t:Tm} {w w':World} {p:Ent} (h:t.k=3∧t.may=true) (hl:lookE L (key t.s)=some p) (hn:¬ (t.ls.length:Int)=p.2.1.params) (b:Below w.heap.size w w'):OfPost L t w (.returned (.tuple #[.pointer none,.int .i64 8])) w':=by
 have h1:ofE L t=8:=by unfold ofE; rw [if_pos h,hl]; simp only; rw [if_neg hn]
 have h2:ofO L t=none:=by unfold ofO; rw [h1]; rfl
 exact ⟨by rw [h1,h2]; rfl,b⟩
theorem of_ok {L:List Ent} {t:Tm} {w w':World} {p:Ent} (h:t.k=3∧t.may=true) (hl:lookE L (key t.s)=some p) (hn:(t.ls.length:Int)=p.2.1.params) (b:Below w.heap.size w w'):OfPost L t w (.returned (.tuple #[.pointer (some ⟨p.1,0,none⟩),.int .i64 0])) w':=by
 have h1:ofE L t=0:=by unfold ofE; rw [if_pos h,hl]; simp only; rw [if_pos hn]
 have h2:ofO L t=some p:=by unfold ofO; rw [h1,if_pos rfl,hl]
 exact ⟨by rw [h1,h2]; rfl,b⟩
end Env
theorem of_any {B:Nat} {w:World} {e:Nat} {L:List Ent} {mo:Option Nat} {v:Value} (h:EnvB B w e L mo v) (t:Tm) (hd:Hd) (hin:t.In w.heap.size w hd) (hs:t.s.size≤maxLen) :
 Calls Tryz.prog 90 #[.pointer (some ⟨e,0,none⟩),t.val hd] w (OfPost L t w):=by
 obtain ⟨WA,hWA⟩:∃ WA,WA=w.alloc (t.box hd):=⟨_,rfl⟩
 have HBA:=hid (show Below w.heap.size w WA from hWA ▸ below_one _ _)
 have HBX:=hid (show WA.heap[w.heap.size]?=some (t.box hd) from hWA ▸ World.alloc_heap_new w _)
 have HM:=hid (PMay_any t hd WA (carry hin HBA.out))
 have HAT:=hid (fun (W:World) (hW:Below WA.heap.size WA W)=>at_any (h.below (Trm.go HBA.out hW)) t.s hs)
 have HENV:=hid (fun (W:World) (hW:Below WA.heap.size WA W)=>(h.below (Trm.go HBA.out hW)))
 have HARG:=hid (fun (h1:¬ (t.k=3∧t.may=true)) (W:World) (b:Below w.heap.size w W)=>of_arg (L:=L) h1 b)
 have HNONE:=hid (fun (h1:t.k=3∧t.may=true) (hl:lookE L (key t.s)=none) (W:World) (b:Below w.heap.size w W)=>of_none h1 hl b)
 have HLEV:=hid (fun (h1:t.k=3∧t.may=true) (p:Ent) (hl:lookE L (key t.s)=some p) (hn:¬ (t.ls.length:Int)=p.2.1.params) (W:World) (b:Below w.heap.size w W)=>of_level h1 hl hn b)
 have HOK:=hid (fun (h1:t.k=3∧t.may=true) (p:Ent) (hl:lookE L (key t.s)=some p) (hn:(t.ls.length:Int)=p.2.1.params) (W:World) (b:Below w.heap.size w W)=>of_ok h1 hl hn b)
 have HIN:=hid (fun p (hp:lookE L (key t.s)=some p)=>(lookE_some hp).1)
 obtain ⟨Q,hQ⟩:∃ Q,Q=OfPost L t w:=⟨_,rfl⟩
 rw [← hQ] at HARG HNONE HLEV HOK ⊢
 obtain ⟨O,hO⟩:∃ O,O=lookE L (key t.s):=⟨_,rfl⟩
 rw [← hO] at HAT HNONE HLEV HOK HIN
 clear h hin hs hQ hO
 unfold Tm.val Tm.vals at *
 go_enter Tryz.func90,Tryz.ntmps90
 unfold Tm.box Tm.vals at hWA
 go_upto_region 1 with fail
 rw [← hWA]
 clear hWA
 obtain ⟨x0,x1,x2,x3,x4⟩:=Tm.cells HBX.out
 by_cases hk:t.k=3
 ·have hk0:(t.k == 3)=true:=by simpa using hk
  have hk1:(t.k != 3)=false:=by simpa using hk
  have HK:=hid hk
  clear hk
  go_wp2_with fail
  refine HM.out.mono ?_
  rintro y w1 ⟨rfl,b1⟩
  have H1:=hid b1
  clear b1 HM x0 x1 x2 x3 x4
  obtain ⟨x0,x1,x2,x3,x4⟩:=Tm.cells (Lvl.keep H1.out HBX.out)
  cases hm:t.may
  ·have HE:=hid (HARG.out (fun hh=>by rw [hm] at hh; cases hh.2) w1 (Trm.go HBA.out H1.out))
   clear hm
   go_wp2_with fail
   exact HE.out
  ·have HKM:Hid (t.k=3∧t.may=true):=hid ⟨HK.out,hm⟩
   clear hm
   go_wp2_with fail
   refine (HAT.out w1 H1.out).mono ?_
   rintro y w2 ⟨rfl,rfl⟩
   cases O with
   | none =>
     have HE:=hid (HNONE.out HKM.out rfl w1 (Trm.go HBA.out H1.out))
     unfold ptrV
     go_wp2_with fail
     exact HE.out
   | some p =>
     have HP:=hid ((HENV.out w1 H1.out).info p (HIN.out p rfl)).1
     have cP:w1.cell? ⟨p.1,2,none⟩=some (.int .i64 p.2.1.params):=by rw [HP.out.cell]; rfl
     unfold ptrV
     by_cases hn:(t.ls.length:Int)=p.2.1.params
     ·have HE:=hid (HOK.out HKM.out p rfl hn w1.drew (Trm.go HBA.out H1.out).drew)
      have hn0:((t.ls.length:Int) == p.2.1.params)=true:=by simpa using hn
      have hn1:((t.ls.length:Int) != p.2.1.params)=false:=by simpa using hn
      clear hn
      go_wp2_with fail
      go_region_held3 (fun w'=>w'.cell? ⟨w.heap.size,3,none⟩=some (.slice hd.lo t.ls.length hd.lc)∧w'.cell? ⟨p.1,2,none⟩=some (.int .i64 p.2.1.params)) (go_keep) (fail)
      go_wp2_with fail
      exact HE.out
     ·have HE:=hid (HLEV.out HKM.out p rfl hn w1.drew (Trm.go HBA.out H1.out).drew)
      have hn0:((t.ls.length:Int) == p.2.1.params)=false:=by simpa using hn
      have hn1:((t.ls.length:Int) != p.2.1.params)=true:=by simpa using hn
      clear hn
      go_wp2_with fail
      go_region_held3 (fun w'=>w'.cell? ⟨w.heap.size,3,none⟩=some (.slice hd.lo t.ls.length hd.lc)∧w'.cell? ⟨p.1,2,none⟩=some (.int .i64 p.2.1.params)) (go_keep) (fail)
      go_wp2_with fail
      exact HE.out
 ·have hk0:(t.k == 3)=false:=by simpa using hk
  have hk1:(t.k != 3)=true:=by simpa using hk
  have HE:=hid (HARG.out (fun hh=>hk hh.1) WA HBA.out)
  go_wp2_with fail
  exact HE.out
end Go.Proofs.YtmngddomnaaedaaGreat
namespace Go.Proofs.YtmngddomnaaedaaGreat
open Go.RowKit Go.Shelf Go.Maps Lvl Trm Env
namespace Env
theorem ofE_zero {L:List Ent} {t:Tm} (h:ofE L t=0):t.k=3∧t.may=true∧∃ p,lookE L (key t.s)=some p∧ofO L t=some p∧(t.ls.length:Int)=p.2.1.params:=by
 have h0:=h
 unfold ofE at h
 split at h
 ·rename_i h1
  cases hl:lookE L (key t.s) with
  | none=>rw [hl] at h; simp at h
  | some p =>
    rw [hl] at h
    simp only at h
    split at h
    ·rename_i h2
     exact ⟨h1.1,h1.2,p,rfl,by unfold ofO; rw [if_pos h0,hl],h2⟩
    ·simp at h
 ·simp at h
theorem ofO_none {L:List Ent} {t:Tm} (h:ofE L t ≠ 0):ofO L t=none:=by unfold ofO; rw [if_neg h]
theorem putT_cell {w:World} {X b i:Nat} {u:Value} (h:w.cell? ⟨b,i,none⟩=some u) (hne:b ≠ X) (v0 v1 v2 v3 v4:Value):(putT w X v0 v1 v2 v3 v4).cell? ⟨b,i,none⟩=some u:=by
 have hn:∀ j:Nat,(⟨b,i,none⟩:Addr) ≠ ⟨X,j,none⟩:=fun j a=>by injection a with a1 _ _; exact hne a1
 unfold putT
 rw [World.cell?_setCell_other _ _ _ _ (fun a=>hn _ (by first | exact a | exact a.symm)),World.cell?_setCell_other _ _ _ _ (fun a=>hn _ (by first | exact a | exact a.symm)),World.cell?_setCell_other _ _ _ _ (fun a=>hn _ (by first | exact a | exact a.symm)),World.cell?_setCell_other _ _ _ _ (fun a=>hn _ (by first | exact a | exact a.symm)),World.cell?_setCell_other _ _ _ _ (fun a=>hn _ (by first | exact a | exact a.symm))]
 exact h
end Env
end Go.Proofs.YtmngddomnaaedaaGreat
namespace Go.Proofs.YtmngddomnaaedaaGreat
open Go.RowKit Go.Shelf Go.Maps Lvl Trm Env
namespace Env
noncomputable def vaAns (L:List Ent) (t:Tm):Tm × Int:=match ofO L t with
 | none=>(zeroT,ofE L t)
 | some p=>if p.2.1.kind=2 then levelsAns p.2.1.va t.ls else (zeroT,6)
end Env
end Go.Proofs.YtmngddomnaaedaaGreat
namespace Go.Proofs.YtmngddomnaaedaaGreat
open Go.RowKit Go.Shelf Go.Maps Lvl Trm Env
namespace Env
def ClsPost (n:Nat) (cs:List Value) (w:World) (y:Ending) (w':World):Prop:=∃ v',y=.returned v'∧w'.ownsRow w.heap.size 9 1 v' n cs∧Below w.heap.size w w'
end Env
theorem CloneS_any {B:Nat} {w:World} {v:Value} {n:Nat} {cs:List Value} (h:w.ownsRow B 9 1 v n cs) (h1:∀ u ∈ cs,u.oneCell'=true) (hn:n≤4096):Calls Tryz.prog 91 #[v] w (ClsPost n cs w):=by
 have q22:∀ (w:World) (a:Option Addr) (n c n' c':Nat),(binOp .eql 60 (.slice a n c) (.slice none n' c')).run Tryz.prog w=.ok (.bool a.isNone) w:=fun w a n c n' c'=>Lib.run_eql_slice_nil w _ _ a n c n' c' Tryz.underlying60
 rcases h.2 with ⟨hv,h0⟩ | ⟨g,cap,cur,hv,hbg,hg,rest⟩
 ·have hl:cs=[]:=List.length_eq_zero_iff.1 (by have:=h.1; omega)
  have HPO:Hid (ClsPost n cs w (.returned (.slice none 0 0)) w):=hid ⟨_,rfl,⟨h.1,Or.inl ⟨rfl,h0⟩⟩,Below.refl _ _⟩
  subst hv
  clear h h1 hn h0 hl
  go_enter Tryz.func91,Tryz.ntmps91
  go_wp2_with fail
  go_ret
  exact HPO.out
 ·obtain ⟨i0,hi,hz0,hz1,hz2⟩:=info_parts infoStr
  subst hv
  have HC:Hid (∀ j u,cs[j]?=some u→w.cell? ((⟨g,0,none⟩:Addr).add j)=some u):=hid (fun j u hj=>h.cells (g:=g) rfl j u hj)
  have hlen:cs.length=n * 1:=h.1
  have HLEN:=hid hlen
  have H1:=hid h1
  have HN:=hid hn
  clear h h1 hn rest hg hbg hlen
  go_enter Tryz.func91,Tryz.ntmps91
  go_wp2_with (at_builtin; refine wpList_append_own _ rfl _ _ 60 rfl w.heap.size 9 i0 _ 1 16 Tryz.underlying60 hi hz0 hz1 hz2 rfl (by decide) _ _ _ rfl (World.ownsRow_made w #[] 0 (Nat.le_refl _) (Nat.zero_le _) (by simp)) ⟨g,0,none⟩ n cap cs rfl ?c1 ?c2 ?c3 ?c4 ?c5 ?c6 ?_)
  case c1=>exact HLEN.out
  case c2 =>
   intro j u hj
   exact Lib.cell?_alloc_some _ (HC.out j u hj)
  case c3=>exact H1.out
  case c4=>unfold maxLen; have:=HN.out; omega
  case c5=>have:=HN.out; omega
  case c6=>simp
  intro v' w1 hown hgrow hnil
  have ho0:(w.alloc (.cells #[] 9)).ownsRow w.heap.size 9 1 (.slice (some ⟨w.heap.size,0,none⟩) 0 0) 0 []:=World.ownsRow_made w #[] 0 (Nat.le_refl _) (Nat.zero_le _) (by simp)
  have hbel:=(below_one w (.cells #[] 9)).trans (below_own ho0 hgrow (by simp))
  have HPO:Hid (ClsPost n cs w (.returned v') w1):=hid ⟨_,rfl,by simpa using hown,hbel⟩
  obtain ⟨ro',rc',hv⟩:=row_slice hown
  subst hv
  clear ho0 hgrow hnil hown hbel
  go_wp2_with fail
  go_ret
  exact HPO.out
theorem list_any {B:Nat} {w:World} {e:Nat} {L:List Ent} {mo:Option Nat} {v:Value} (h:EnvB B w e L mo v) :
 Calls Tryz.prog 55 #[.pointer (some ⟨e,0,none⟩)] w (ClsPost L.length (L.map fun p=>.string p.2.1.name) w):=by
 have HC:=hid (CloneS_any h.row (fun u hu=>by obtain ⟨p,_,rfl⟩:=List.mem_map.1 hu; rfl) h.few)
 obtain ⟨ao,cp,hv⟩:=row_slice h.row
 have hbox:=h.box
 subst hv
 have c1:w.cell? ⟨e,1,none⟩=some (.slice ao L.length cp):=by simp [World.cell?,hbox]
 clear h hbox
 go_enter Tryz.func55,Tryz.ntmps55
 go_wp2_with fail
 refine HC.out.mono ?_
 rintro y w1 ⟨v',rfl,hrow,b1⟩
 have HEND:=hid (show ClsPost L.length (L.map fun p=>.string p.2.1.name) w (.returned v') w1 from ⟨v',rfl,hrow,b1⟩)
 clear hrow b1
 go_wp2_with fail
 go_ret
 exact HEND.out
end Go.Proofs.YtmngddomnaaedaaGreat
namespace Go.Proofs.YtmngddomnaaedaaGreat
open Go.RowKit Go.Shelf Go.Maps Lvl Trm Env
namespace Env
end Env
end Go.Proofs.YtmngddomnaaedaaGreat
namespace Go.Proofs.YtmngddomnaaedaaGreat
open Go.RowKit Go.Shelf Go.Maps Lvl Trm Env
namespace Env
theorem row_base {w:World} {base base':Nat} {e:TypeId} {size:Nat} {v:Value} {n:Nat} {xs:List Value} (h:w.ownsRow base e size v n xs) (hb:base'≤base):w.ownsRow base' e size v n xs :=
 ⟨h.1,h.2.imp id fun ⟨g,cap,cur,a,b,c⟩=>⟨g,cap,cur,a,Nat.le_trans hb b,c⟩⟩
end Env
end Go.Proofs.YtmngddomnaaedaaGreat
namespace Go.Proofs.YtmngddomnaaedaaGreat
open Go.RowKit Go.Shelf Go.Maps Lvl Trm Env
namespace Env
structure Step (P P':Nat→Prop) (W W':World):Prop where
 ran:RanS P W W'
 own:∀ q,P' q→P q∨W.heap.size≤q
 wide:∀ q,P q→P' q
theorem Step.refl (P:Nat→Prop) (W:World):Step P P W W:=⟨RanS.refl _ _,fun _ a=>Or.inl a,fun _ a=>a⟩
theorem Step.of_below {P:Nat→Prop} {W W':World} (b:Below W.heap.size W W'):Step P P W W':=⟨RanS.of_below b,fun _ a=>Or.inl a,fun _ a=>a⟩
theorem Step.trans {P P' P2:Nat→Prop} {W W' W2:World} (h:Step P P' W W') (k:Step P' P2 W' W2):Step P P2 W W2 :=
 ⟨ran_goE h.ran k.ran h.own,fun q hq=>by
  rcases k.own q hq with a | a
  ·exact h.own q a
  ·exact Or.inr (Nat.le_trans h.ran.size a),fun q a=>k.wide q (h.wide q a)⟩
theorem Step.inf {P P':Nat→Prop} {W W':World} (s:Step P P' W W') {x:Inf} {h:IHd} (f:FirmI P W x h):FirmI P' W' x h:=f.turn s.ran s.own
theorem Step.infs {P P':Nat→Prop} {W W':World} (s:Step P P' W W') {lo:Option Addr} {l:List Inf} (f:InfFirm P W lo l):InfFirm P' W' lo l:=f.turn s.ran s.own
theorem Step.size {P P':Nat→Prop} {W W':World} (s:Step P P' W W'):W.heap.size≤W'.heap.size:=s.ran.size
theorem Step.block {P P':Nat→Prop} {W W':World} (s:Step P P' W W') {b:Nat} {o:Obj} (hb:W.heap[b]?=some o) (hn:¬ P b):W'.heap[b]?=some o∧¬ P' b :=
 ⟨s.ran.keep hb hn,fun a=>by
  rcases s.own b a with c | c
  ·exact hn c
  ·have:=(Array.getElem?_eq_some_iff.1 hb).1; omega⟩
structure EnvP (P:Nat→Prop) (B:Nat) (w:World) (e:Nat) (L:List Ent) (mo:Option Nat) (v:Value):Prop where
 env:EnvB B w e L mo v
 own:∀ q,ownE e v mo q→P q
 lt:∀ q,P q→q < w.heap.size
 ent:∀ p ∈ L,¬ P p.1∧FirmI P w p.2.1 p.2.2
theorem EnvP.of {B:Nat} {w:World} {e:Nat} {L:List Ent} {mo:Option Nat} {v:Value} (h:EnvB B w e L mo v):EnvP (ownE e v mo) B w e L mo v :=
 ⟨h,fun _ a=>a,h.own_lt,fun p hp=>⟨(h.info p hp).2,h.firm p hp⟩⟩
theorem EnvP.below {P:Nat→Prop} {B:Nat} {w w':World} {e:Nat} {L:List Ent} {mo:Option Nat} {v:Value} (h:EnvP P B w e L mo v) (b:Below w.heap.size w w'):EnvP P B w' e L mo v :=
 ⟨h.env.below b,h.own,fun q a=>Nat.lt_of_lt_of_le (h.lt q a) b.size,fun p hp=>⟨(h.ent p hp).1,(h.ent p hp).2.step (RanS.of_below b)⟩⟩
noncomputable def addA (L:List Ent) (l:List Inf):Int:=if 4096 < L.length + l.length then 4 else wrongL L l
def AddTo (L:List Ent) (l:List Inf) (M:List Ent):Prop:=(addA L l=0∧Added L l M)∨(addA L l ≠ 0∧M=L)
def AddP (P:Nat→Prop) (B e:Nat) (L:List Ent) (mo:Option Nat) (v:Value) (w:World) (l:List Inf) (y:Ending) (W:World):Prop :=
 y=.returned (.int .i64 (addA L l))∧∃ M mo' v' P',AddTo L l M∧EnvP P' B W e M mo' v'∧Step P P' w W∧RanS (ownE e v mo) w W∧(∀ q,ownE e v' mo' q→ownE e v mo q∨w.heap.size≤q)∧(∀ q,P' q→P q∨ownE e v' mo' q)
theorem AddP.of {P:Nat→Prop} {B:Nat} {w:World} {e:Nat} {L:List Ent} {mo:Option Nat} {v:Value} {l:List Inf} {y:Ending} {W:World} (h:EnvP P B w e L mo v) (a:AddPost P B e L mo v w l y W):AddP P B e L mo v w l y W:=by
 rcases a with ⟨h1,rfl,b⟩ | ⟨h1,h2,rfl,b⟩ | ⟨h1,h2,rfl,M,mo',v',h3,h4,h5,h6,h7⟩
 ·have hA:addA L l=4:=by unfold addA; rw [if_pos h1]
  exact ⟨by rw [hA],L,mo,v,P,Or.inr ⟨by rw [hA]; decide,rfl⟩,h.below b,Step.of_below b,RanS.of_below b,fun _ a=>Or.inl a,fun _ a=>Or.inl a⟩
 ·have hA:addA L l=wrongL L l:=by unfold addA; rw [if_neg (by omega)]
  exact ⟨by rw [hA],L,mo,v,P,Or.inr ⟨by rw [hA]; exact h2,rfl⟩,h.below b,Step.of_below b,RanS.of_below b,fun _ a=>Or.inl a,fun _ a=>Or.inl a⟩
 ·have hA:addA L l=0:=by unfold addA; rw [if_neg (by omega),h2]
  have hran:RanS P w W:=h6.wide h.own
  refine ⟨by rw [hA],M,mo',v',fun q=>P q∨ownE e v' mo' q,Or.inl ⟨hA,h3⟩,⟨h4,fun _ a=>Or.inr a,fun q a=>?_,fun p hp=>?_⟩,⟨hran,fun q a=>?_,fun _ a=>Or.inl a⟩,h6,h5,fun _ a=>a⟩
  ·rcases a with a | a
   ·exact Nat.lt_of_lt_of_le (h.lt q a) h6.size
   ·exact h4.own_lt q a
  ·rcases h7 p hp with a | ⟨a,b⟩
   ·refine ⟨fun c=>?_,(h.ent p a).2.turn hran (fun q c=>c.elim Or.inl (fun d=>(h5 q d).imp (h.own q) id))⟩
    rcases c with c | c
    ·exact (h.ent p a).1 c
    ·exact (h4.info p hp).2 c
   ·refine ⟨fun c=>?_,b⟩
    rcases c with c | c
    ·have:=h.lt _ c; omega
    ·exact (h4.info p hp).2 c
  ·exact a.elim Or.inl (fun d=>(h5 q d).imp (h.own q) id)
theorem addP_any {P:Nat→Prop} {B:Nat} {w:World} {e:Nat} {L:List Ent} {mo:Option Nat} {v:Value} (h:EnvP P B w e L mo v) (l:List Inf) (lo:Option Addr) (lc:Nat) (hr:InfFirm P w lo l) (hl:l.length≤1000000) (hrs:∀ x ∈ l,x.rules.length≤1000) :
 Calls Tryz.prog 30 #[.pointer (some ⟨e,0,none⟩),.slice lo l.length lc] w (AddP P B e L mo v w l) :=
 (add_any h.env l lo lc h.own h.lt hr hl hrs).mono fun _ _ a=>AddP.of h a
theorem EnvP.other {P R P':Nat→Prop} {B:Nat} {w w':World} {e:Nat} {L:List Ent} {mo:Option Nat} {v:Value} (h:EnvP P B w e L mo v) (hr:RanS R w w') (hR:∀ q,R q→P q) (hne:∀ q,ownE e v mo q→¬ R q) (hP:∀ q,P' q→P q∨w.heap.size≤q) (hw:∀ q,P q→P' q) (hl:∀ q,P' q→q < w'.heap.size):EnvP P' B w' e L mo v:=by
 have hrP:RanS P w w':=hr.wide hR
 refine ⟨⟨hr.keep h.env.box (hne e (Or.inl rfl)),row_same h.env.row (fun q hq=>hr.block q (h.env.row.lt q hq).2 (hne q (Or.inr (Or.inl hq)))),?_,fun p hp=>?_,fun p hp=>?_,h.env.nodup,h.env.apart,h.env.eB,h.env.hgt,h.env.few⟩,fun q a=>hw q (h.own q a),hl,fun p hp=>?_⟩
 ·rcases h.env.map with a | ⟨m,D,hm,hown,ht⟩
  ·exact Or.inl a
  ·exact Or.inr ⟨m,D,hm,⟨hown.choose,hown.choose_spec.choose,(hr.block m hown.lt (hne m (Or.inr (Or.inr hm)))).trans hown.choose_spec.choose_spec.1,hown.choose_spec.choose_spec.2⟩,ht⟩
 ·obtain ⟨h1,h2⟩:=h.env.info p hp
  exact ⟨hr.keep h1 (fun a=>(h.ent p hp).1 (hR _ a)),h2⟩
 ·exact (h.ent p hp).2.turn hrP (fun q a=>Or.inl (h.own q a))
 ·refine ⟨fun a=>?_,(h.ent p hp).2.turn hrP hP⟩
  rcases hP _ a with b | b
  ·exact (h.ent p hp).1 b
  ·have:=(h.env.info p hp).1.lt; omega
end Env
end Go.Proofs.YtmngddomnaaedaaGreat
namespace Go.Proofs.YtmngddomnaaedaaGreat
open Go.RowKit Go.Shelf Go.Maps Lvl Trm Env
namespace Env
end Env
theorem find_nil (s:ByteArray) (w:World):Calls Tryz.prog 29 #[.pointer none,.string s] w fun e w'=>e=.returned (.tuple #[zInfo,.bool false])∧Below w.heap.size w w':=by
 obtain ⟨WA,hWA⟩:∃ WA,WA=w.alloc (.cells Inf.zeros 53):=⟨_,rfl⟩
 have HBA:=hid (show Below w.heap.size w WA from hWA ▸ below_one _ _)
 have HZ:=hid (show WA.heap[w.heap.size]?=some (.cells Inf.zeros 53) from hWA ▸ World.alloc_heap_new _ _)
 have HKI:Hid ((Tryz.prog.info? 53).map (·.size)=some 25):=hid infoInf
 have HC25:Hid ((Tryz.prog.info? 53).map (·.size)=some Inf.zeros.size):=hid HKI.out
 have HONE:Hid (Inf.zeros.all (·.oneCell')=true):=hid (by kernel_rfl)
 unfold Inf.zeros at hWA
 go_enter Tryz.func29,Tryz.ntmps29
 go_upto_region 1 with fail
 rw [← hWA]
 clear hWA
 go_wp2_with fail
 refine (at_nil _ _).mono ?_
 rintro y w' ⟨rfl,rfl⟩
 go_wp2_with (first
  | (refine wpList_buildTo rfl 53 _ rfl (some 12) rfl Inf.zeros (by kernel_rfl) ?_)
  | (refine wpList_store_row rfl 53 (.tmp 4) (.tmp 12) rfl w.heap.size Inf.zeros rfl rfl 53 Inf.zeros HZ.out HC25.out rfl HONE.out ?_))
 exact bodyPost_ret_by (results_two rfl _ _ w.heap.size _ (.bool false) rfl rfl (run_loadVar_row _ _ _ _ _ _ _ (setRow_heap WA _ _ _ _ _ HZ.out) Tryz.underlying53 rfl HC25.out)) rfl ⟨rfl,below_setRow HBA.out (Nat.le_refl _) _⟩
end Go.Proofs.YtmngddomnaaedaaGreat
