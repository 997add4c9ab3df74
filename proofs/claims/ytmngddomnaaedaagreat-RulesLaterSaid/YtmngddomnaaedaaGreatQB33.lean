/-
 An environment of the call's own that is filled,and then no more written.
-/
import Derived.Lib.Hide
import Derived.Test.YtmngddomnaaedaaGreatQB32
import Derived.Test.YtmngddomnaaedaaGreatQB16
import Derived.Test.YtmngddomnaaedaaGreatQB4
import Derived.Test.YtmngddomnaaedaaGreatQB24
import Derived.Test.YtmngddomnaaedaaGreatQB10
open Go.Lib (hid)
set_option maxRecDepth 100000
set_option maxHeartbeats 32000000
namespace Go.Proofs.YtmngddomnaaedaaGreat
open Go.RowKit Go.Shelf Go.Maps Lvl Trm Env
namespace Env
structure SE (P0:Nat→Prop) (w0 W:World) (e:Nat) (E:List Ent) (mo:Option Nat) (v:Value):Prop where
 env:EnvP (fun q=>P0 q∨ownE e v mo q) 0 W e E mo v
 base:∀ q,ownE e v mo q→w0.heap.size≤q
 bel:Below w0.heap.size w0 W
theorem EnvP.weak {P P':Nat→Prop} {B:Nat} {w:World} {e:Nat} {L:List Ent} {mo:Option Nat} {v:Value} (h:EnvP P B w e L mo v) (hs:∀ q,P' q→P q) (ho:∀ q,ownE e v mo q→P' q):EnvP P' B w e L mo v :=
 ⟨h.env,ho,fun q a=>h.lt q (hs q a),fun p hp=>⟨fun a=>(h.ent p hp).1 (hs _ a),(h.ent p hp).2.turn (RanS.refl _ _) (fun q a=>Or.inl (hs q a))⟩⟩
theorem SE.new {P0:Nat→Prop} {w0:World} (hP:∀ q,P0 q→q < w0.heap.size):SE P0 w0 (w0.alloc (.cells #[.map none,.slice none 0 0] 110)) w0.heap.size [] none (.slice none 0 0):=by
 have h:=EnvB.start (B:=0) (w:=w0) (Nat.zero_le _)
 have ho:∀ q,ownE w0.heap.size (.slice none 0 0) none q→q=w0.heap.size:=by
  rintro q (hq | hq | hq)
  ·exact hq
  ·simp [Value.ownBlock] at hq
  ·cases hq
 refine ⟨⟨h,fun q a=>Or.inr a,fun q hq=>?_,fun p hp=>by simp at hp⟩,fun q a=>by rw [ho q a]; exact Nat.le_refl _,below_one _ _⟩
 rw [World.size_alloc]
 rcases hq with a | a
 ·have:=hP q a; omega
 ·rw [ho q a]; omega
theorem SE.below {P0:Nat→Prop} {w0 W W':World} {e:Nat} {E:List Ent} {mo:Option Nat} {v:Value} (h:SE P0 w0 W e E mo v) (b:Below W.heap.size W W'):SE P0 w0 W' e E mo v:=⟨h.env.below b,h.base,Trm.go h.bel b⟩
def SEAdd (P0:Nat→Prop) (w0:World) (e:Nat) (E:List Ent) (mo:Option Nat) (v:Value) (l:List Inf) (W:World) (y:Ending) (W':World):Prop :=
 y=.returned (.int .i64 (addA E l))∧∃ M mo' v',AddTo E l M∧SE P0 w0 W' e M mo' v'∧∀ lo l2,InfFirm (fun q=>P0 q∨ownE e v mo q) W lo l2→InfFirm (fun q=>P0 q∨ownE e v' mo' q) W' lo l2
theorem SE.add {P0:Nat→Prop} {w0 W:World} {e:Nat} {E:List Ent} {mo:Option Nat} {v:Value} (h:SE P0 w0 W e E mo v) (l:List Inf) (lo:Option Addr) (lc:Nat) (hr:InfFirm (fun q=>P0 q∨ownE e v mo q) W lo l) (hl:l.length≤1000000) (hrs:∀ x ∈ l,x.rules.length≤1000) :
 Calls Tryz.prog 30 #[.pointer (some ⟨e,0,none⟩),.slice lo l.length lc] W (SEAdd P0 w0 e E mo v l W):=by
 refine (addP_any h.env l lo lc hr hl hrs).mono ?_
 rintro y W' ⟨hy,M,mo',v',P',h1,h2,h3,h4,h5,h6⟩
 have hsub:∀ q,(P0 q∨ownE e v' mo' q)→P' q:=fun q a=>by
  rcases a with a | a
  ·exact h3.wide q (Or.inl a)
  ·exact h2.own q a
 refine ⟨hy,M,mo',v',h1,⟨h2.weak hsub (fun q a=>Or.inr a),fun q a=>?_,h.bel.trans (h4.below h.base h.bel.size)⟩,fun lo l2 k=>(k.turn h3.ran h3.own).turn (RanS.refl _ _) (fun q a=>Or.inl (hsub q a))⟩
 rcases h5 q a with b | b
 ·exact h.base q b
 ·exact Nat.le_trans h.bel.size b
theorem SE.addOne {P0:Nat→Prop} {w0 W:World} {e:Nat} {E:List Ent} {mo:Option Nat} {v:Value} {x:Inf} {hx:IHd} (h:SE P0 w0 W e E mo v) (f:FirmI (fun q=>P0 q∨ownE e v mo q) W x hx) (hr:x.rules.length≤1000) :
 Calls Tryz.prog 30 #[.pointer (some ⟨e,0,none⟩),.slice (some ⟨W.heap.size,0,none⟩) 1 1] (W.alloc (.cells (x.vals hx).toArray 53)) (SEAdd P0 w0 e E mo v [x] W):=by
 have hb:Below W.heap.size W (W.alloc (.cells (x.vals hx).toArray 53)):=below_one _ _
 refine ((h.below hb).add [x] (some ⟨W.heap.size,0,none⟩) 1 (one_row f h.env.lt _) (by simp) (fun y hy=>by simp at hy; subst hy; exact hr)).mono ?_
 rintro y W' ⟨hy,M,mo',v',h1,h2,h3⟩
 exact ⟨hy,M,mo',v',h1,h2,fun lo l2 k=>h3 lo l2 (k.turn (RanS.of_below hb) (fun q a=>Or.inl a))⟩
theorem SE.shut [Typ.Xt] {P0:Nat→Prop} {w0 W:World} {e:Nat} {E:List Ent} {mo:Option Nat} {v:Value} (h:SE P0 w0 W e E mo v) (hP:∀ q,P0 q→q < w0.heap.size) (hr:∀ p ∈ E,p.2.1.rules.length≤1000):Typ.EnvF P0 W e E mo v :=
 ⟨h.env.weak (fun q a=>a.imp (fun b=>b.1) id) (fun q a=>Or.inr a),fun q a b=>by have:=hP q b; have:=h.base q a; omega,hr⟩
theorem slice_infF {P:Nat→Prop} {w:World} {l:List Inf} {lo:Option Addr} {lc x y:Nat} (h1:x≤y) (h2:y≤l.length) (h3:l.length≤lc) (h:InfFirm P w lo l) :
 ∃ (so:Option Addr) (sc:Nat),(∀ W:World,(Instr.slice 59 (.slice lo l.length lc) (some (.int .i64 (x:Int))) (some (.int .i64 (y:Int))) none).run Tryz.prog W=.ok (.slice so (y - x) sc) W)∧InfFirm P w so ((l.take y).drop x):=by
 refine ⟨if lc=x then lo else lo.map (·.add (x * 25)),lc - x,fun W=>?_,⟨fun k hk=>?_⟩⟩
 ·have he:Tryz.prog.elem 59=53:=by simp [Program.elem,Tryz.underlying59]
  have hz:(Go.sizeOf 53).run Tryz.prog W=.ok 25 W:=by kernel_rfl
  rw [run_slice_lh W 59 _ _ _ (by rw [he]; exact Tryz.underlying59) .i64 .i64 _ _ (by omega) (by omega) (by omega),he,hz]
  simp [Result.andThen,sliced]
 ·rw [List.length_drop,List.length_take] at hk
  obtain ⟨b,off,hd,a1,a2,a3,a4,a5⟩:=h.place (x + k) (by omega)
  have e:((l.take y).drop x)[k]'(by rw [List.length_drop,List.length_take]; omega)=l[x + k]'(by omega):=by
   rw [List.getElem_drop,List.getElem_take]
  refine ⟨b,off + x * 25,hd,?_,a2,a3,?_,?_⟩
  ·rw [if_neg (by omega),a1]
   simp [Addr.add]
  ·rw [e,show off + x * 25 + k * 25=off + (x + k) * 25 by omega]; exact a4
  ·rw [e]; exact a5
end Env
namespace Smp
theorem fixI_ents (E:List Ent) (x:Inf):fixI E x=fixI (ents (Env.infs E)) x:=fixI_alike (infs_ents _).symm x
theorem addI_snoc (L l:List Inf) (x:Inf):addI L (l ++ [x])=addI L l ++ [fixI (ents (addI L l)) x]:=by
 unfold addI
 rw [List.foldl_append]
 rfl
theorem added_infs {A B:List Ent} {l:List Inf} (h:Added A l B):Env.infs B=addI (Env.infs A) l:=by
 induction h with
 | nil=>rfl
 | snoc x b hd h2 ih =>
   rename_i l2 M
   rw [addI_snoc,← ih]
   rw [show Env.infs (M ++ [(b,fixI M x,hd)])=Env.infs M ++ [fixI M x] by simp [Env.infs],← fixI_ents M x]
theorem addI_app (L a b:List Inf):addI (addI L a) b=addI L (a ++ b):=by
 unfold addI
 rw [List.foldl_append]
theorem addTo_known {E M:List Ent} {l:List Inf} {k:List Inf} (he:Env.infs E=k) (h:AddTo E l M) (h0:addB (ents k) l=0):addA E l=0∧Env.infs M=addI k l:=by
 have ha:addA E l=0:=by rw [addA_alike (B:=ents k) (by rw [he,infs_ents]),addA_is,h0]
 exact ⟨ha,by rw [← he]; exact added_infs (h.yes ha)⟩
end Smp
end Go.Proofs.YtmngddomnaaedaaGreat
namespace Go.Proofs.YtmngddomnaaedaaGreat
open Go.RowKit Go.Shelf Go.Maps Lvl Trm Env
namespace Smp
noncomputable def allEls:List (List Typ.Ch):=((numEls ++ pairsI.map Typ.infCh) ++ listsI.map Typ.infCh) ++ madeI.map Typ.infCh
theorem allEls_len:allEls.length=20:=by kernel_rfl
theorem infosI_len:infosI.length=20:=by kernel_rfl
theorem infosI_rules:infosI.all (fun x=>decide (x.rules.length≤1000))=true:=by kernel_rfl
theorem smpL_rules:smpL.all (fun x=>decide (x.rules.length≤1000))=true:=by kernel_rfl
end Smp
theorem Env.take_infF {P:Nat→Prop} {w:World} {l:List Inf} {lo:Option Addr} (h:InfFirm P w lo l) (k:Nat):InfFirm P w lo (l.take k):=⟨fun i hi=>by
 rw [List.length_take] at hi
 obtain ⟨b,off,hd,a1,a2,a3,a4,a5⟩:=h.place i (by omega)
 refine ⟨b,off,hd,a1,a2,a3,?_,?_⟩
 ·rw [List.getElem_take]; exact a4
 ·rw [List.getElem_take]; exact a5⟩
theorem Env.slice_to4 {lo:Option Addr} {n lc:Nat} (h:4≤lc) (W:World):(Instr.slice 59 (.slice lo n lc) none (some (.int .i64 4)) none).run Tryz.prog W=.ok (.slice lo 4 lc) W:=by
 have he:Tryz.prog.elem 59=53:=by simp [Program.elem,Tryz.underlying59]
 have hz:(Go.sizeOf 53).run Tryz.prog W=.ok 25 W:=by kernel_rfl
 rw [run_slice_h W 59 _ _ _ (by rw [he]; exact Tryz.underlying59) .i64 _ (by omega) (by omega),he,hz]
 have h0:¬ lc=0:=by omega
 cases lo <;> simp [Result.andThen,sliced,Addr.add]
namespace Smp
theorem add_b2:addB (ents (addI [] (infosI.take 4))) ((infosI.take 7).drop 4)=0:=by kernel_rfl
theorem add_c2:addB (ents (addI [] (infosI.take 7))) ((infosI.take 11).drop 7)=0:=by kernel_rfl
theorem addI_b:addI (addI [] (infosI.take 4)) ((infosI.take 7).drop 4)=addI [] (infosI.take 7):=by rw [addI_app]; exact congrArg _ (by kernel_rfl)
theorem addI_c:addI (addI [] (infosI.take 7)) ((infosI.take 11).drop 7)=addI [] (infosI.take 11):=by rw [addI_app]; exact congrArg _ (by kernel_rfl)
end Smp
theorem Infos8_cap [Typ.Xt] (P:Nat→Prop) (w:World) (hP:Typ.Lt P w):Calls Tryz.prog 39 #[] w fun e w'=>∃ lo lc,e=.returned (.slice lo Smp.infosI.length lc)∧Smp.infosI.length≤lc∧InfFirm P w' lo Smp.infosI∧Below w.heap.size w w':=by
 have h0:=Typ.fn_ok (p:=⟨Typ.spI,8,[],[],false,[0,1,3,5,7]⟩) (Typ.par_ok Typ.spI_ok) Tryz.func39 rfl rfl (rs:=[.tmp 0]) rfl (by kernel_rfl) (ss:=[]) (r:=.own .infs Smp.allEls) (by decide) (by kernel_rfl) P w [] hP rfl
 refine h0.mono fun e w' k=>?_
 have k2:Typ.MadeV P w (.val false [.infs Smp.infosI]) e w':=k.freeze hP (by kernel_rfl)
 obtain ⟨v,rfl,hb,hv⟩:=k2
 obtain ⟨lo,lc,hx,hf⟩:=Typ.arg_one hv
 cases hx
 obtain ⟨v2,e2,_,h3⟩:=k
 cases e2
 refine ⟨lo,lc,rfl,?_,hf,hb⟩
 rcases h3 with ⟨_,h4⟩ | ⟨g,_,cap,cur,vss,h4,_,h5,_⟩
 ·have:=Smp.allEls_len
  rw [h4] at this
  cases this
 ·injection h4 with _ h6 h7
  omega
theorem Smp.add_one {k:Nat} (h0:11≤k) (h1:k < 20) (h2:k < infosI.length):addB (ents (addI [] (infosI.take k))) [infosI[k]]=0:=by
 have h:=List.all_eq_true.1 add_d (k - 11) (List.mem_range.2 (by omega))
 rw [show 11 + (k - 11)=k by omega,Typ.getD_of h2] at h
 exact eq_of_beq h
def Env.SmRel (P:Nat→Prop) (w:World) (e:Nat) (lo:Option Addr) (i:Value) (wr:World):Prop :=
 ∃ (k:Nat) (M:List Ent) (mo:Option Nat) (v:Value),i=.int .i64 k∧11≤k∧k≤20∧SE P w wr e M mo v∧Env.infs M=Smp.addI [] (Smp.infosI.take k)∧InfFirm (fun q=>P q∨ownE e v mo q) wr lo Smp.infosI
theorem Sample8_made [Typ.Xt] (P:Nat→Prop) (w:World) (hP:Typ.Lt P w) :
 Calls Tryz.prog 12 #[] w (Typ.MadeV P w (.tup [(false,[.env Smp.smpL]),(false,[.dat (.bool true)])])):=by
 go_enter Tryz.func12,Tryz.ntmps12
 go_wp2_with fail
 refine (envNew_any w).mono ?_
 rintro y w1 ⟨rfl,rfl⟩
 have h1:=SE.new (P0:=P) hP
 have HE1:=hid h1
 have hlt1:Typ.Lt (fun q=>P q∨ownE w.heap.size (Value.slice none 0 0) none q) (w.alloc (.cells #[.map none,.slice none 0 0] 110)):=⟨h1.env.lt,Nat.le_trans hP.B h1.bel.size⟩
 obtain ⟨W1,hW1⟩:∃ W1,W1=w.alloc (.cells #[.map none,.slice none 0 0] 110):=⟨_,rfl⟩
 rw [← hW1] at HE1 hlt1 ⊢
 clear hW1 h1
 go_wp2_with fail
 refine (Infos8_cap _ W1 hlt1).mono ?_
 rintro y W2 ⟨lo,lc,rfl,hcap,hf,hb⟩
 have HBU:=hid hb
 have hE2:=HE1.out.below hb
 obtain ⟨soB,scB,hsB,rB⟩:=slice_infF (x:=4) (y:=7) (by omega) (by rw [Smp.infosI_len]; omega) hcap hf
 obtain ⟨soC,scC,hsC,rC⟩:=slice_infF (x:=7) (y:=11) (by omega) (by rw [Smp.infosI_len]; omega) hcap hf
 have hsA:=slice_to4 (n:=Smp.infosI.length) (lo:=lo) (lc:=lc) (by have:=Smp.infosI_len; omega)
 have hsB2:∀ W:World,(Instr.slice 59 (.slice lo Smp.infosI.length lc) (some (.int .i64 4)) (some (.int .i64 7)) none).run Tryz.prog W=.ok (.slice soB 3 scB) W:=hsB
 have hsC2:∀ W:World,(Instr.slice 59 (.slice lo Smp.infosI.length lc) (some (.int .i64 7)) (some (.int .i64 11)) none).run Tryz.prog W=.ok (.slice soC 4 scC) W:=hsC
 have hru:∀ x ∈ Smp.infosI,x.rules.length≤1000:=fun x hx=>of_decide_eq_true (List.all_eq_true.1 Smp.infosI_rules x hx)
 have HA:=hid (show Calls Tryz.prog 30 #[.pointer (some ⟨w.heap.size,0,none⟩),.slice lo 4 lc] W2 (SEAdd P w w.heap.size [] none (.slice none 0 0) (Smp.infosI.take 4) W2) from by
  have h:=hE2.add (Smp.infosI.take 4) lo lc (take_infF hf 4) (by rw [List.length_take]; omega) (fun x hx=>hru x (List.mem_of_mem_take hx))
  rw [List.length_take,Smp.infosI_len] at h
  exact h)
 have HF:=hid hf
 have HRB:=hid rB
 have HRC:=hid rC
 have HRU:=hid hru
 have HCAP:=hid hcap
 obtain ⟨n,hn⟩:∃ n,n=Smp.infosI.length:=⟨_,rfl⟩
 rw [← hn] at hsA hsB2 hsC2 HCAP ⊢
 have HN:=hid hn
 clear hn hf rB rC hru hcap hsB hsC hb hE2 HE1 hlt1
 go_wp2_with fail
 refine HA.out.mono ?_
 rintro y W3 ⟨rfl,M1,mo1,v1,t1,e1,r1⟩
 obtain ⟨z1,i1⟩:=Smp.addTo_known (k:=[]) rfl t1 Smp.add_a
 rw [z1]
 have HB3:=hid (show Calls Tryz.prog 30 #[.pointer (some ⟨w.heap.size,0,none⟩),.slice soB 3 scB] W3 (SEAdd P w w.heap.size M1 mo1 v1 ((Smp.infosI.take 7).drop 4) W3) from by
  have h:=e1.add ((Smp.infosI.take 7).drop 4) soB scB (r1 _ _ HRB.out) (by rw [List.length_drop,List.length_take]; omega) (fun x hx=>HRU.out x (List.mem_of_mem_take (List.mem_of_mem_drop hx)))
  rw [List.length_drop,List.length_take,Smp.infosI_len] at h
  exact h)
 have HC3:=hid (r1 _ _ HRC.out)
 have HF3:=hid (r1 _ _ HF.out)
 have HI1:=hid i1
 clear i1 z1 t1 e1 r1 HA HRB HRC HF
 go_wp2_with fail
 refine HB3.out.mono ?_
 rintro y W4 ⟨rfl,M2,mo2,v2,t2,e2,r2⟩
 obtain ⟨z2,i2⟩:=Smp.addTo_known HI1.out t2 Smp.add_b2
 rw [z2]
 rw [Smp.addI_b] at i2
 have HC4:=hid (show Calls Tryz.prog 30 #[.pointer (some ⟨w.heap.size,0,none⟩),.slice soC 4 scC] W4 (SEAdd P w w.heap.size M2 mo2 v2 ((Smp.infosI.take 11).drop 7) W4) from by
  have h:=e2.add ((Smp.infosI.take 11).drop 7) soC scC (r2 _ _ HC3.out) (by rw [List.length_drop,List.length_take]; omega) (fun x hx=>HRU.out x (List.mem_of_mem_take (List.mem_of_mem_drop hx)))
  rw [List.length_drop,List.length_take,Smp.infosI_len] at h
  exact h)
 have HF4:=hid (r2 _ _ HF3.out)
 have HI2:=hid i2
 clear i2 z2 t2 e2 r2 HB3 HC3 HF3 HI1
 go_wp2_with fail
 refine HC4.out.mono ?_
 rintro y W5 ⟨rfl,M3,mo3,v3,t3,e3,r3⟩
 obtain ⟨z3,i3⟩:=Smp.addTo_known HI2.out t3 Smp.add_c2
 rw [z3]
 rw [Smp.addI_c] at i3
 have HF5:=hid (r3 _ _ HF4.out)
 have HI3:=hid i3
 have HE5:=hid e3
 clear i3 z3 t3 e3 r3 HC4 HF4 HI2
 go_wp2_with fail
 have hn20:n=20:=HN.out.trans Smp.infosI_len
 subst hn20
 go_loopw [4] (fun i wr=>SmRel P w w.heap.size lo i wr) (fun i _=>20 - (intOf i).toNat)
 case atStart=>exact ⟨11,M3,mo3,v3,rfl,by omega,by omega,HE5.out,HI3.out,HF5.out⟩
 case round =>
  obtain ⟨k,M,mo,v,rfl,hk0,hk,he,hi,hf⟩:=hrel
  by_cases hlt:k < 20
  ·have hlt2:((k:Int) < 20)=True:=eq_true (by omega)
   have hw:IntKind.i64.wrap ((k:Int) + 1)=(k:Int) + 1:=by rw [IntWalk.i64_in _ (by omega)]
   have hkl:k < Smp.infosI.length:=by rw [Smp.infosI_len]; exact hlt
   obtain ⟨b,off,hd,hlo,hb,hnp,hrg,hfi⟩:=hf.place k hkl
   subst hlo
   have HT:=hid (Smp.add_one hk0 hlt hkl)
   have HRL:Hid (Smp.infosI[k].rules.length≤1000):=hid (HRU.out _ (List.getElem_mem hkl))
   have HTK:Hid (Smp.infosI.take (k + 1)=Smp.infosI.take k ++ [Smp.infosI[k]]):=hid (List.take_succ_eq_append_getElem hkl)
   generalize Smp.infosI[k]=x at hrg hfi HT HRL HTK
   have HADD:=hid (he.addOne hfi HRL.out)
   have HRG:=hid hrg
   have HCL:Hid ((Tryz.prog.info? 53).map (·.size)=some (x.vals hd).length):=hid infoInf
   have HF:=hid hf
   have HI:=hid hi
   have HK:=hid (And.intro hk0 hlt)
   clear hrg hfi hf hi he hnp hkl hk hk0
   go_wp2_with (first
    | (refine wpList_load_mid rfl 53 (.tmp 35) rfl b (off + k * 25) rfl (x.vals hd) _ HRG.out Tryz.underlying53 rfl HCL.out ?_)
    | (refine wpList_bsliceG rfl 59 53 1 _ rfl (some 37) rfl (x.vals hd).toArray Tryz.underlying59 (by kernel_rfl) ?_))
   refine HADD.out.mono ?_
   rintro y W6 ⟨rfl,M',mo',v',t6,e6,r6⟩
   obtain ⟨z6,i6⟩:=Smp.addTo_known HI.out t6 HT.out
   rw [z6]
   have HN6:=hid (show SmRel P w w.heap.size (some ⟨b,off,none⟩) (.int .i64 ((k:Int) + 1)) W6 from ⟨k + 1,M',mo',v',by simp,by have:=HK.out.1; omega,by have:=HK.out.2; omega,e6,by rw [i6,Smp.addI_app,HTK.out],r6 _ _ HF.out⟩)
   clear t6 e6 r6 z6 i6
   go_wp2_with fail
   exact ⟨HN6.out,by simp [intOf]; omega⟩
  ·have hk20:k=20:=by omega
   subst hk20
   have HE:=hid he
   have HI:=hid hi
   clear hf he hi hk0 hk hlt
   go_wp2_with fail
   have hin:Env.infs M=Smp.smpL:=by rw [HI.out,List.take_of_length_le (by rw [Smp.infosI_len]; exact Nat.le_refl _)]; rfl
   have hrl:∀ p ∈ M,p.2.1.rules.length≤1000:=fun p hp=>of_decide_eq_true (List.all_eq_true.1 Smp.smpL_rules p.2.1 (by rw [← hin]; exact List.mem_map_of_mem hp))
   exact bodyPost_ret (v:=.tuple #[.pointer (some ⟨w.heap.size,0,none⟩),.bool true]) (by simp [results,Tryz.results12,go_sem]) rfl ⟨_,rfl,HE.out.bel,[_,_],rfl,_,_,rfl,⟨[_],⟨[_],[],rfl,⟨w.heap.size,mo,v,M,rfl,hin,HE.out.shut hP hrl⟩,rfl⟩,Or.inr ⟨rfl,rfl⟩⟩,_,_,rfl,Typ.vok_bool true,rfl⟩
end Go.Proofs.YtmngddomnaaedaaGreat
namespace Go.Proofs.YtmngddomnaaedaaGreat
open Go.RowKit Go.Shelf Go.Maps Lvl Trm Env
namespace Smp
end Smp
namespace Typ
theorem par_okC [Typ.Xt] {sp:Spec} {n:Nat} {ov:List (Nat × Bool)} {mu ow:List Nat} (h:SpecOk sp):ParOk ⟨sp,n,ov,mu,true,ow⟩:=⟨h,fun _=>⟨cut_ok,nmf_ok⟩⟩
end Typ
end Go.Proofs.YtmngddomnaaedaaGreat
namespace Go.Proofs.YtmngddomnaaedaaGreat
open Go.RowKit Go.Shelf Go.Maps Lvl Trm Env
namespace Typ
def WorksC [Typ.Xt]:Prop:=∀ (P:Nat→Prop) (w:World),Typ.Lt P w→Calls Tryz.prog 16 #[] w (MadeV P w (.val false [.dat (.bool true)]))
def gDeep:List (Bool × List Ch)→Option (Sl × Bool)
 | [(true,l)]=>match toTm l with
   | some t=>some (.val false [.dat (.bool t.deep)],true)
   | none=>none
 | _=>none
def gDelN:List (Bool × List Ch)→Option (Sl × Bool)
 | [(false,[.dat (.pointer none)]),(true,a)]=>match toTm a with
   | some _=>some (errS 2,true)
   | none=>none
 | _=>none
def gMaj:List (Bool × List Ch)→Option (Sl × Bool)
 | [(false,[c]),(true,a)]=>match envOf c,toTm a with
   | some L,some t=>some (mjS (mjr L t),true)
   | _,_=>none
 | _=>none
theorem fix1 [Typ.Xt] {P:Nat→Prop} {w:World} {l:List Ch} {t:Tm} {v:Value} (ht:toTm l=some t) (h:VOk P w true l v):VOk P w true [.tm t] v:=by
 obtain ⟨x,rfl,f⟩:=arg_tm ht h
 exact vok_tm f
end Typ
end Go.Proofs.YtmngddomnaaedaaGreat
namespace Go.Proofs.YtmngddomnaaedaaGreat
open Go.RowKit Go.Shelf Go.Maps Lvl Trm Env
namespace Typ
theorem list_made [Typ.Xt] (P:Nat→Prop) (L:List Inf) (v:Value) (w:World) (hP:Typ.Lt P w) (hv:(Ch.env L).Ok P w [v]) :
 Calls Tryz.prog 55 #[v] w (MadeV P w (.val false [.strs (L.map (·.name))])):=by
 obtain ⟨e,mo,u,E,h1,rfl,h2⟩:=hv
 cases h1
 refine (list_any h2.env.env).mono ?_
 rintro y w' ⟨v',rfl,hown,b⟩
 have hlen:((Env.infs E).map (·.name)).length=E.length:=by simp [Env.infs]
 have key:∃ lo lc,v'=.slice lo E.length lc∧StrRow P w' lo ((Env.infs E).map (·.name)):=by
  rcases hown.2 with ⟨hv,h0⟩ | ⟨g,cap,cur,rfl,hbg,hg,rest⟩
  ·exact ⟨none,0,by rw [hv,h0],⟨fun k hk=>by rw [hlen] at hk; omega⟩⟩
  ·refine ⟨_,cap,rfl,⟨fun k hk=>?_⟩⟩
   rw [hlen] at hk
   have hgl:g < w'.heap.size:=(Array.getElem?_eq_some_iff.1 hg).1
   refine ⟨g,0,rfl,hgl,fun hp=>by have:=hP g hp; omega,?_⟩
   have h1:=hown.cells (g:=g) rfl k (.string E[k].2.1.name) (by simp [hk])
   rw [Addr.add_mid] at h1
   simpa [Env.infs] using h1
 obtain ⟨lo,lc,rfl,hr⟩:=key
 exact ⟨_,rfl,b,[_],⟨[_],[],rfl,⟨lo,lc,by rw [hlen],hr⟩,rfl⟩,Or.inr ⟨rfl,rfl⟩⟩
def gList:List (Bool × List Ch)→Option (Sl × Bool)
 | [(false,[.env L])]=>some (.val false [.strs (L.map (·.name))],true)
 | _=>none
def sp20:Spec:=spCons 55 gList sp18
theorem sp20_ok [Typ.Xt]:SpecOk sp20:=spCons_ok sp18_ok (by intro args w; kernel_rfl) (by
 intro ss r h P w vs hP hv
 unfold gList at h
 split at h
 ·rename_i L
  simp only [Option.some.injEq,Prod.mk.injEq,and_true] at h
  subst h
  obtain ⟨v,rfl,h2⟩:=args1 hv
  exact list_made P L v w hP (arg_one h2)
 ·cases h)
def rcN (L:List Inf) (s:ByteArray):List ByteArray→Inf × Bool
 | []=>(zI0,false)
 | n :: r=>if (fnd L n).2 then (if (fnd L n).1.kind == 5 then (if ((fnd L n).1.of_.toList == s.toList) then ((fnd L n).1,true) else rcN L s r) else rcN L s r) else rcN L s r
def nmsOf (L:List Inf):List ByteArray:=L.map (·.name)
def nmAt (L:List Inf) (g:Nat):ByteArray:=(nmsOf L).getD g ⟨#[]⟩
def nth (L:List Inf) (g:Nat):Inf × Bool:=fnd L (nmAt L g)
def rcd (L:List Inf) (s:ByteArray):Inf × Bool:=if isR L s then rcN L s (L.map (·.name)) else (zI0,false)
def dT (L:List Inf) (s:ByteArray) (z:Int):Tbl Sl:=[(0,.val false [.env L]),(1,.val false [.dat (.string s)]),(4,.box 53 25),(16,.val false [.strs (L.map (·.name))]),(17,.val false [.dat (.int .i64 (L.map (·.name)).length)]),(18,.val false [.dat (.int .i64 z)])]
def dP (ov:List (Nat × Bool)):Par:=⟨sp20,43,ov,[],false,[]⟩
theorem rcN_drop {L:List Inf} {s:ByteArray} {g:Nat} (h:g < (nmsOf L).length):rcN L s ((nmsOf L).drop g)=(if (nth L g).2 then (if (nth L g).1.kind == 5 then (if ((nth L g).1.of_.toList == s.toList) then ((nth L g).1,true) else rcN L s ((nmsOf L).drop (g + 1))) else rcN L s ((nmsOf L).drop (g + 1))) else rcN L s ((nmsOf L).drop (g + 1))):=by
 unfold nth nmAt
 rw [getD_of h,List.drop_eq_getElem_cons h]
 rfl
end Typ
open Typ in
theorem Record_env [Typ.Xt] (P:Nat→Prop) (L:List Inf) (s:ByteArray) (vs:List Value) (w:World) (hP:Typ.Lt P w) (hv:VArgs P w [(false,[.env L]),(false,[.dat (.string s)])] vs) (hs0:s.size≤9223372036854775807) (hL:L.length≤1000000) (hN:∀ n ∈ nmsOf L,n.size≤9223372036854775807) :
 Calls Tryz.prog 27 vs.toArray w (MadeV P w (fndS (rcd L s))):=by
 have hm:Tryz.prog.follows .mixedOrders=true:=by kernel_rfl
 have hs:∀ ov,ParOk (dP ov):=fun _=>par_ok sp20_ok
 have hln:(nmsOf L).length=L.length:=by simp [nmsOf]
 unfold rcd
 cases h0:isR L s
 ·exact (Typ.fn_ok (p:=dP [(12,false)]) (hs _) Tryz.func27 rfl rfl (rs:=[.cell 4 53,.tmp 5]) rfl (by kernel_rfl) (ss:=[(false,[.env L]),(false,[.dat (.string s)])]) (r:=.tup [(true,zInf),(false,[.dat (.bool false)])]) (by simp [dP]) ((show _=some (_,(((decide (s.size≤9223372036854775807)) && (isR L s == false)) && true)) by kernel_rfl).trans (by rw [decide_eq_true hs0,h0]; rfl)) P w vs hP hv).mono fun _ _ k=>made_zInf k
 rw [if_pos rfl]
 show Calls Tryz.prog _ _ _ (MadeV P w (fndS (rcN L s (nmsOf L))))
 refine calls_of_wp Tryz.func27 rfl ?_
 have st:=start_ok (p:=dP []) (P:=P) (w:=w) hP hv (by simp [dP])
 refine wp_seq (piece_ok (p:=dP []) (hs _) hm (T':=[(0,.val false [.env L]),(1,.val false [.dat (.string s)]),(4,.box 53 25)]) (e:=.normal) (need:=true) (by kernel_rfl) rfl st fun a1 w1 s1=>?_)
 refine wp_seq (piece_ok (p:=dP [(12,true)]) (hs _) hm (T':=[(0,.val false [.env L]),(1,.val false [.dat (.string s)]),(4,.box 53 25)]) (e:=.normal) (need:=(((decide (s.size≤9223372036854775807)) && (isR L s == true)) && true)) (by kernel_rfl) (by rw [decide_eq_true hs0,h0]; rfl) (s1.par rfl rfl) fun a2 w2 s2=>?_)
 refine wp_seq ?_
 refine wp_seq (piece_ok (p:=dP []) (hs _) hm (T':=dT L s 0) (e:=.normal) (need:=true) (by kernel_rfl) rfl (s2.par rfl rfl) fun a3 w3 s3=>?_)
 refine wp_block ?_
 refine Typ.wp_loop_ghost (fun (g:Nat) a w'=>St P w (dP []) (dT L s g) a w'∧g≤(nmsOf L).length∧rcN L s ((nmsOf L).drop g)=rcN L s (nmsOf L)) (fun g=>(nmsOf L).length - g) (g0:=0) ⟨s3.par rfl rfl,by omega,rfl⟩ ?_
 rintro g a w' ⟨s1,hg,e⟩
 by_cases hlt:g < (nmsOf L).length
 ·have hw:IntKind.i64.wrap ((g:Int) + 1)=((g + 1:Nat):Int):=by rw [IntWalk.i64_in _ (by omega)]; simp
  have hd:=rcN_drop (s:=s) hlt
  have hlt2:decide ((g:Int) < (nmsOf L).length)=true:=decide_eq_true (by omega)
  have hg2:(decide ((0:Int)≤g) && decide (g < (nmsOf L).length))=true:=by simp only [hlt,decide_true,Bool.and_true]; exact decide_eq_true (by omega)
  have hsz:decide ((nmAt L g).size≤9223372036854775807)=true:=decide_eq_true (hN _ (by unfold nmAt; rw [getD_of hlt]; exact List.getElem_mem hlt))
  cases k1:(nth L g).2
  ·have k2:=True.intro
   have k3:=True.intro
   simp only [k1,Bool.false_eq_true,if_false] at hd
   rw [e] at hd
   refine piece_ok (p:=dP [(19,true),(27,false)]) (hs _) hm (T':=dT L s (IntKind.i64.wrap ((g:Int) + 1))) (e:=.normal) (need:=(decide ((g:Int) < (nmsOf L).length) == true) && (((decide ((0:Int)≤g) && decide (g < (nmsOf L).length)) && true) && ((decide ((nmAt L g).size≤9223372036854775807) && true) && (((nth L g).2 == false) && true)))) (by kernel_rfl) (by simp only [hlt2,hg2,hsz,k1]; rfl) (s1.par rfl rfl) fun a4 w4 s4=>?_
   rw [hw] at s4
   exact ⟨g + 1,⟨s4.par rfl rfl,by omega,hd.symm⟩,by omega⟩
  ·cases k2:((nth L g).1.kind == 5)
   ·simp only [k1,k2,Bool.false_eq_true,if_true,if_false] at hd
    rw [e] at hd
    refine piece_ok (p:=dP [(19,true),(27,true),(32,false)]) (hs _) hm (T':=dT L s (IntKind.i64.wrap ((g:Int) + 1))) (e:=.normal) (need:=(decide ((g:Int) < (nmsOf L).length) == true) && (((decide ((0:Int)≤g) && decide (g < (nmsOf L).length)) && true) && ((decide ((nmAt L g).size≤9223372036854775807) && true) && (((nth L g).2 == true) && ((((nth L g).1.kind == 5) == false) && true))))) (by kernel_rfl) (by simp only [hlt2,hg2,hsz,k1,k2]; rfl) (s1.par rfl rfl) fun a4 w4 s4=>?_
    rw [hw] at s4
    exact ⟨g + 1,⟨s4.par rfl rfl,by omega,hd.symm⟩,by omega⟩
   ·cases k3:((nth L g).1.of_.toList == s.toList)
    ·simp only [k1,k2,k3,Bool.false_eq_true,if_true,if_false] at hd
     rw [e] at hd
     refine piece_ok (p:=dP [(19,true),(27,true),(32,true),(38,false)]) (hs _) hm (T':=dT L s (IntKind.i64.wrap ((g:Int) + 1))) (e:=.normal) (need:=(decide ((g:Int) < (nmsOf L).length) == true) && (((decide ((0:Int)≤g) && decide (g < (nmsOf L).length)) && true) && ((decide ((nmAt L g).size≤9223372036854775807) && true) && (((nth L g).2 == true) && ((((nth L g).1.kind == 5) == true) && ((((nth L g).1.of_.toList == s.toList) == false) && true)))))) (by kernel_rfl) (by simp only [hlt2,hg2,hsz,k1,k2,k3]; rfl) (s1.par rfl rfl) fun a4 w4 s4=>?_
     rw [hw] at s4
     exact ⟨g + 1,⟨s4.par rfl rfl,by omega,hd.symm⟩,by omega⟩
    ·simp only [k1,k2,k3,if_true] at hd
     rw [e] at hd
     refine piece_ok (p:=dP [(19,true),(27,true),(32,true),(38,true)]) (hs _) hm (T':=[(4,.var 53 (infCh (nth L g).1)),(5,.val false [.dat (.bool true)])]) (e:=.ret) (need:=(decide ((g:Int) < (nmsOf L).length) == true) && (((decide ((0:Int)≤g) && decide (g < (nmsOf L).length)) && true) && ((decide ((nmAt L g).size≤9223372036854775807) && true) && (((nth L g).2 == true) && ((((nth L g).1.kind == 5) == true) && ((((nth L g).1.of_.toList == s.toList) == true) && true)))))) (by kernel_rfl) (by simp only [hlt2,hg2,hsz,k1,k2,k3]; rfl) (s1.par rfl rfl) fun a4 w4 s4=>?_
     rw [hd]
     exact s4.post (by kernel_rfl)
 ·have hgl:(nmsOf L).drop g=[]:=List.drop_of_length_le (by omega)
  rw [hgl] at e
  refine piece_ok (p:=dP [(19,false)]) (hs _) hm (T':=[(4,.box 53 25)]) (e:=.exit 0) (need:=(decide ((g:Int) < (nmsOf L).length) == false) && true) (by kernel_rfl) (by simpa using by simpa using hlt) (s1.par rfl rfl) fun a4 w4 s4=>?_
  rw [← e]
  refine Code.wp_mono (fun x a w k=>?_) (tail_ok (p:=dP []) (hs _) hm (fn:=Tryz.f27) (rs:=[.cell 4 53,.tmp 5]) (r:=.tup [(true,zInf),(false,[.dat (.bool false)])]) (need:=true) rfl (by kernel_rfl) rfl (s4.par rfl rfl))
  cases x <;> first | (obtain ⟨q1,v,q2,q3⟩:=k; exact ⟨q1,v,q2,made_zInf q3⟩) | exact ⟨k.1,made_zInf k.2⟩ | exact made_zInf k | exact k
end Go.Proofs.YtmngddomnaaedaaGreat
namespace Go.Proofs.YtmngddomnaaedaaGreat
open Go.RowKit Go.Shelf Go.Maps Lvl Trm Env
namespace Typ
noncomputable def gSame:List (Bool × List Ch)→Option (Sl × Bool)
 | [(true,a),(true,b)]=>match toTm a,toTm b with
   | some x,some y=>some (.val false [.dat (.bool (same x y))],true)
   | _,_=>none
 | _=>none
def gRcd:List (Bool × List Ch)→Option (Sl × Bool)
 | [(false,[.env L]),(false,[.dat (.string s)])]=>some (fndS (rcd L s),decide (s.size≤9223372036854775807) && (decide (L.length≤1000000) && (nmsOf L).all (fun n=>decide (n.size≤9223372036854775807))))
 | _=>none
noncomputable def sp21:Spec:=spCons 12 (gC (.tup [(false,[.env Smp.smpL]),(false,[.dat (.bool true)])])) <| spCons 23 gSame <| spCons 25 gMaj <| spCons 27 gRcd sp9
theorem sp21_ok [Typ.Xt]:SpecOk sp21:=by
 refine spCons_ok (spCons_ok (spCons_ok (spCons_ok sp9_ok (by intro args w; kernel_rfl) ?rec) (by intro args w; kernel_rfl) ?maj) (by intro args w; kernel_rfl) ?same) (by intro args w; kernel_rfl) (gC_ok Sample8_made)
 case rec =>
  intro ss r h P w vs hP hv
  unfold gRcd at h
  split at h
  ·simp only [Option.some.injEq,Prod.mk.injEq,Bool.and_eq_true,decide_eq_true_eq,List.all_eq_true] at h
   obtain ⟨rfl,hs,hl,hn⟩:=h
   exact Record_env P _ _ vs w hP hv hs hl hn
  ·cases h
 case maj =>
  intro ss r h P w vs hP hv
  unfold gMaj at h
  split at h
  ·rename_i c a
   split at h
   ·rename_i L t hL ht
    simp only [Option.some.injEq,Prod.mk.injEq,and_true] at h
    subst h
    obtain ⟨v1,y1,rfl,h1,v2,y2,rfl,h2,h4⟩:=hv
    exact Major_made P c L hL t _ w hP ⟨_,_,rfl,h1,_,_,rfl,fix1 ht h2,h4⟩
   ·cases h
  ·cases h
 case same =>
  intro ss r h P w vs hP hv
  unfold gSame at h
  split at h
  ·split at h
   ·rename_i x y hx hy
    simp only [Option.some.injEq,Prod.mk.injEq,and_true] at h
    subst h
    obtain ⟨v,u,rfl,h1,h2⟩:=args2 hv
    obtain ⟨a,rfl,f1⟩:=arg_tm hx h1
    obtain ⟨b,rfl,f2⟩:=arg_tm hy h2
    refine (RefSame_any x y a b w f1.here f2.here).mono ?_
    rintro e w' ⟨rfl,bl⟩
    exact ⟨_,rfl,bl,vok_bool _⟩
   ·cases h
  ·cases h
end Typ
end Go.Proofs.YtmngddomnaaedaaGreat
