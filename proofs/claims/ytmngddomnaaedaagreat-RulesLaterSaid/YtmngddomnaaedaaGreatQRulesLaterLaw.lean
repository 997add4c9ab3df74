/-
 RulesLater's call: what a name becomes hangs on nothing that is added behind it.
-/
import Derived.Lib.Hide
import Derived.Test.YtmngddomnaaedaaGreatQB39
open Go.Lib (hid)
set_option maxRecDepth 100000
set_option maxHeartbeats 32000000
namespace Go.Proofs.YtmngddomnaaedaaGreat
open Go.RowKit Go.Shelf Go.Maps Lvl Trm Env
namespace Typ
noncomputable def rtP (ov:List (Nat × Bool)):Par:=⟨sp26,238,ov,[],false,[]⟩
theorem vok_dat [Typ.Xt] {P:Nat→Prop} {w:World} {z:Value} (h:z.oneCell'=true):VOk P w false [.dat z] z:=⟨[_],ok_dat h rfl,Or.inr ⟨rfl,rfl⟩⟩
theorem vok_env [Typ.Xt] {P:Nat→Prop} {w:World} {e:Nat} {E:List Ent} {mo:Option Nat} {v:Value} {L:List Inf} (h:EnvF P w e E mo v) (hi:Env.infs E=L):VOk P w false [.env L] (.pointer (some ⟨e,0,none⟩)) :=
 ⟨[_],⟨[_],[],rfl,⟨e,mo,v,E,rfl,hi,h⟩,rfl⟩,Or.inr ⟨rfl,rfl⟩⟩
def fitI (x:Inf):Bool:=decide (0≤x.kind) && decide (x.kind≤255) && decide (x.name.size≤9223372036854775807) && decide (x.rules.length≤9223372036854775807)
theorem fitI_of {x:Inf} (h:x.Fit):fitI x=true:=by simp [fitI,h.k0,h.k1,h.name,h.rules]
theorem smp_rcdf:fitI (rcd Smp.smpL ⟨#[80,97,105,114]⟩).1=true:=by kernel_rfl
structure Fine (L:List Inf) (t m:Tm):Prop where
 rn:decide ((rcr L (spM t).1 ((spM t).2.length:Int)).1.rules.length≤1000000)=true
 it:iotC L t m=true
 fd:fldC L 0 t=true
 ln:decide (L.length≤1000000)=true
 nm:(nmsOf L).all (fun n=>decide (n.size≤9223372036854775807))=true
theorem smp_ln:decide (Smp.smpL.length≤1000000)=true∧(nmsOf Smp.smpL).all (fun n=>decide (n.size≤9223372036854775807))=true:=by constructor <;> kernel_rfl
theorem fine_smp (t m:Tm):Fine Smp.smpL t m:=⟨decide_eq_true (rcr_rules smp_okI _ _),iotC_ok smp_okI t m,fldC_ok smp_okI 0 t,smp_ln.1,smp_ln.2⟩
theorem fine_env {P:Nat→Prop} {w:World} {e:Nat} {M:List Ent} {mo:Option Nat} {v:Value} {X:List Inf} {t m:Tm} (h:EnvP P 0 w e M mo v) (hX:Env.infs M=Smp.smpL ++ X) (ht:There Smp.smpL (spM t).1) (hm:There Smp.smpL (spM m).1):Fine (Env.infs M) t m:=by
 have h0:=fine_smp t m
 refine ⟨?_,?_,?_,?_,?_⟩
 ·rw [hX,rcr_app X _ ht]; exact h0.rn
 ·rw [hX,iotC_app X ht hm]; exact h0.it
 ·rw [hX,fldC_app X 0 ht]; exact h0.fd
 ·have h1:=h.env.few
  have h2:(Env.infs M).length=M.length:=by simp [Env.infs]
  exact decide_eq_true (by omega)
 ·refine List.all_eq_true.2 fun n hn=>?_
  obtain ⟨x,hx,rfl⟩:=List.mem_map.1 hn
  obtain ⟨p,hp,rfl⟩:=List.mem_map.1 hx
  exact decide_eq_true ((h.ent p hp).2.fit.name)
end Typ
open Typ in
theorem RulesLater_made (l:List Inf) (t m:Tm) (vs:List Value) (w:World) (hP:Typ.Lt (fun _=>False) w) (hv:VArgs (fun _=>False) w [(false,[.infs l]),(true,[.tm t]),(true,[.tm m])] vs) :
 Calls Tryz.prog 7 vs.toArray w (LawP w):=by
 have hm:Tryz.prog.follows .mixedOrders=true:=by kernel_rfl
 have hs:∀ ov,@ParOk Typ.Xt.none (rtP ov):=fun _=>par_ok sp26_ok
 have hlen:=hv.len
 refine calls_of_wp Tryz.func7 rfl ?_
 have s0:=start_ok (p:=rtP []) (P:=fun _=>False) (w:=w) hP hv (by simp [rtP])
 have hb0:Below w.heap.size w w:=Below.refl _ _
 refine wp_seq (piece_ok (p:=rtP []) (hs _) hm (T':=[(0,.val false [.infs l]),(4,.var 25 [.tm (t)]),(5,.var 25 [.tm (m)])]) (e:=.normal) (need:=true) (by kernel_rfl) rfl (s0.par rfl rfl) fun a1 w1 s1=>?_)
 cases h1:t.deep
 case true =>
  refine wp_seq ?_
  refine piece_ok (p:=rtP [(33,true)]) (hs _) hm (T':=[(6,.val false [.dat (.bool true)])]) (e:=.ret) (need:=((t.deep == true) && true)) (by kernel_rfl) (by rw [h1]; rfl) (s1.par rfl rfl) fun a2 w2 s2=>?_
  exact s2.fin rfl hb0
 cases h2:m.deep
 case true =>
  refine wp_seq ?_
  refine piece_ok (p:=rtP [(33,false),(37,true)]) (hs _) hm (T':=[(6,.val false [.dat (.bool true)])]) (e:=.ret) (need:=((t.deep == false) && ((m.deep == true) && true))) (by kernel_rfl) (by rw [h1,h2]; rfl) (s1.par rfl rfl) fun a2 w2 s2=>?_
  exact s2.fin rfl hb0
 cases h3:t.may
 case false =>
  refine wp_seq ?_
  refine piece_ok (p:=rtP [(33,false),(37,false),(42,true)]) (hs _) hm (T':=[(6,.val false [.dat (.bool true)])]) (e:=.ret) (need:=((t.deep == false) && ((m.deep == false) && (((!t.may) == true) && true)))) (by kernel_rfl) (by rw [h1,h2,h3]; rfl) (s1.par rfl rfl) fun a2 w2 s2=>?_
  exact s2.fin rfl hb0
 cases h4:m.may
 case false =>
  refine wp_seq ?_
  refine piece_ok (p:=rtP [(33,false),(37,false),(42,false),(47,true)]) (hs _) hm (T':=[(6,.val false [.dat (.bool true)])]) (e:=.ret) (need:=((t.deep == false) && ((m.deep == false) && (((!t.may) == false) && (((!m.may) == true) && true))))) (by kernel_rfl) (by rw [h1,h2,h3,h4]; rfl) (s1.par rfl rfl) fun a2 w2 s2=>?_
  exact s2.fin rfl hb0
 cases h5:decide ((l.length:Int) > 30)
 case true =>
  refine wp_seq ?_
  refine piece_ok (p:=rtP [(33,false),(37,false),(42,false),(47,false),(51,true)]) (hs _) hm (T':=[(6,.val false [.dat (.bool true)])]) (e:=.ret) (need:=((t.deep == false) && ((m.deep == false) && (((!t.may) == false) && (((!m.may) == false) && ((decide ((l.length:Int) > 30) == true) && true)))))) (by kernel_rfl) (by rw [h1,h2,h3,h4,h5]; rfl) (s1.par rfl rfl) fun a2 w2 s2=>?_
  exact s2.fin rfl hb0
 refine wp_seq (piece_ok (p:=rtP [(33,false),(37,false),(42,false),(47,false),(51,false)]) (hs _) hm (T':=[(0,.val false [.infs l]),(4,.var 25 [.tm (t)]),(5,.var 25 [.tm (m)])]) (e:=.normal) (need:=((t.deep == false) && ((m.deep == false) && (((!t.may) == false) && (((!m.may) == false) && ((decide ((l.length:Int) > 30) == false) && true)))))) (by kernel_rfl) (by rw [h1,h2,h3,h4,h5]; rfl) (s1.par rfl rfl) fun a2 w2 s2=>?_)
 have hnl:=decide_eq_true (nms_appl h3 h4)
 refine wp_seq (piece_ok (p:=rtP []) (hs _) hm (T':=[(0,.val false [.infs l]),(4,.var 25 [.tm (t)]),(5,.var 25 [.tm (m)]),(7,.val false [.strs (nmB (appl t [m]))])]) (e:=.normal) (need:=(((decide ((appl t [m]).nms.length≤1000000)) && true) && true)) (by kernel_rfl) (by rw [hnl]; rfl) (s2.par rfl rfl) fun a3 w3 s3=>?_)
 have hnmok:∀ s ∈ nmB (appl t [m]),s.size≤32:=fun s hs=>nmB_ok h3 h4 hs
 have hnmt:∀ s:ByteArray,s.data.toList ∈ t.nms∨s.data.toList ∈ m.nms→s ∈ nmB (appl t [m]):=fun s hs=>mem_nmB (by
  rw [show (appl t [m]).nms=t.nms ++ m.nms from nms_t2 4 t m]
  exact List.mem_append.2 hs)
 have hNl:(nmB (appl t [m])).length≤1000000:=by
  have h:=nms_appl h3 h4
  have h2:=addN_len (appl t [m]).nms []
  simp only [List.length_nil,Nat.zero_add] at h2
  simp only [nmB,List.length_map]
  omega
 generalize nmB (appl t [m])=Ns at s3 hnmok hnmt hNl
 obtain ⟨fr3,hF3,hT3⟩:=s3.ex
 have hd3:=s3.defers
 have hn3:=s3.size
 have hb3:=hF3.bel
 obtain ⟨lo0,lc0,e0,f0⟩:=arg_one (hT3 0 _ rfl)
 have hfits:∀ k:Nat,k < l.length→fitI (l.getD k zI0)=true:=fun k hk=>by
  obtain ⟨_,_,_,_,_,_,_,hfi⟩:=f0.place k hk
  rw [getD_of hk]
  exact fitI_of hfi.fit
 clear f0
 obtain ⟨b4,vs4,e4,_⟩:=hT3 4 _ rfl
 obtain ⟨b5,vs5,e5,_⟩:=hT3 5 _ rfl
 obtain ⟨lo7,lc7,e7,_⟩:=arg_one (hT3 7 _ rfl)
 simp only [List.cons.injEq,and_true] at e0 e7
 obtain ⟨z0,hz0⟩:∃ z,z=a3.tmps.getD 0 undef:=⟨_,rfl⟩
 obtain ⟨z4,hz4⟩:∃ z,z=a3.tmps.getD 4 undef:=⟨_,rfl⟩
 obtain ⟨z5,hz5⟩:∃ z,z=a3.tmps.getD 5 undef:=⟨_,rfl⟩
 obtain ⟨z7,hz7⟩:∃ z,z=a3.tmps.getD 7 undef:=⟨_,rfl⟩
 have t3:St (fun q=>q < w3.heap.size) w3 (rtP []) [(0,.val false [.dat z0]),(4,.val false [.dat z4]),(5,.val false [.dat z5]),(7,.val false [.dat z7])] a3 w3:=St.made ⟨fun q h=>h,Nat.zero_le _⟩ hd3 hn3 (Or.inl (flatB_ok rfl)) (slots_cons (show VOk _ _ false [.dat z0] (a3.tmps.getD 0 undef) from by rw [← hz0]; exact vok_dat (by rw [hz0,e0]; rfl)) (slots_cons (show VOk _ _ false [.dat z4] (a3.tmps.getD 4 undef) from by rw [← hz4]; exact vok_dat (by rw [hz4,e4]; rfl)) (slots_cons (show VOk _ _ false [.dat z5] (a3.tmps.getD 5 undef) from by rw [← hz5]; exact vok_dat (by rw [hz5,e5]; rfl)) (slots_cons (show VOk _ _ false [.dat z7] (a3.tmps.getD 7 undef) from by rw [← hz7]; exact vok_dat (by rw [hz7,e7]; rfl)) slots_nil))))
 refine wp_seq (piece_ok (p:=rtP []) (hs _) hm (T':=[(0,.val false [.dat z0]),(4,.val false [.dat z4]),(5,.val false [.dat z5]),(7,.val false [.dat z7]),(8,.val false [.env Smp.smpL]),(9,.val false [.dat (.bool true)])]) (e:=.normal) (need:=true) (by kernel_rfl) rfl (t3.par rfl rfl) fun a4 w4 s4=>?_)
 obtain ⟨fr4,hF4,hT4⟩:=s4.ex
 have hd4:=s4.defers
 have hn4:=s4.size
 have d0:=(arg_dat (hT4 0 _ rfl)).trans hz0
 have d4:=(arg_dat (hT4 4 _ rfl)).trans hz4
 have d5:=(arg_dat (hT4 5 _ rfl)).trans hz5
 have d7:=(arg_dat (hT4 7 _ rfl)).trans hz7
 have d9:=arg_dat (hT4 9 _ rfl)
 obtain ⟨e,mo,v,E,e8,hinf,hEF⟩:=arg_one (hT4 8 _ rfl)
 simp only [List.cons.injEq,and_true] at e8
 have hb34:Below w3.heap.size w3 w4:=hF4.bel
 have hown:∀ q,ownE e v mo q→w3.heap.size≤q:=fun q a=>by
  by_cases hlt:q < w3.heap.size
  ·exact absurd (hEF.own q a (Or.inl hlt)) (Nat.not_lt_zero _)
  ·omega
 have hownlt:∀ q,ownE e v mo q→q < w4.heap.size:=fun q a=>hEF.env.lt q (Or.inr a)
 have hrul:=hEF.rules
 obtain ⟨P3,hP3⟩:∃ P:Nat→Prop,P=fun q=>PB (fun _=>False) fr3 q∨ownE e v mo q:=⟨_,rfl⟩
 have h3old:∀ q,P3 q→PB (fun _=>False) fr3 q∨w3.heap.size≤q:=fun q hq=>by rw [hP3] at hq; exact hq.imp id (hown q)
 have h3lt:∀ q,P3 q→q < w4.heap.size:=fun q hq=>by
  rw [hP3] at hq
  rcases hq with a | a
  ·have:=hF3.lt q a; have:=hb34.size; omega
  ·exact hownlt q a
 have hE4:EnvP P3 0 w4 e E mo v:=hEF.env.weak (fun q hq=>by
  rw [hP3] at hq
  rcases hq with a | a
  ·have:=hF3.lt q a; exact Or.inl ⟨Or.inl this,by have:=hb34.size; omega⟩
  ·exact Or.inr a) (fun q a=>by rw [hP3]; exact Or.inr a)
 obtain ⟨L,hL⟩:∃ L,L=Smp.smpL:=⟨_,rfl⟩
 obtain ⟨jB,hjB⟩:∃ j:Typ.Xt,j.B=w4.heap.size:=⟨⟨_⟩,rfl⟩
 have hs2:∀ ov,@ParOk jB (rtP ov):=fun _=>par_ok sp26_ok
 have hPn:∀ q,PB P3 (fun _=>none) q→PB (fun _=>False) fr3 q∨w3.heap.size≤q:=fun q hq=>h3old q (PB_none hq)
 have s5:@St jB P3 w4 (rtP []) [(0,.val false [.infs l]),(4,.var 25 [.tm (t)]),(5,.var 25 [.tm (m)]),(7,.val false [.strs Ns]),(8,.val false [.env L]),(9,.val false [.dat (.bool true)])] a4 w4:=St.made ⟨h3lt,Nat.le_of_eq hjB⟩ hd4 hn4 (Or.inr (by
  intro t x hl
  have hl:=look_mem hl
  simp only [List.mem_cons,Prod.mk.injEq,List.not_mem_nil,or_false] at hl
  rcases hl with ⟨_,rfl⟩ | ⟨_,rfl⟩ | ⟨_,rfl⟩ | ⟨_,rfl⟩ | ⟨_,rfl⟩ | ⟨_,rfl⟩
  all_goals first | exact ⟨_,_,Or.inl rfl⟩ | exact ⟨true,_,Or.inr ⟨_,rfl⟩⟩)) (slots_cons (show Sl.Ok _ _ _ 0 _ (a4.tmps.getD 0 undef) from by rw [d0]; exact Sl.Ok.flat (i:=Typ.Xt.none) rfl (hT3 0 _ rfl) (RanS.of_below hb34) hPn) (slots_cons (show Sl.Ok _ _ _ 4 _ (a4.tmps.getD 4 undef) from by rw [d4]; exact Sl.Ok.flat (i:=Typ.Xt.none) rfl (hT3 4 _ rfl) (RanS.of_below hb34) hPn) (slots_cons (show Sl.Ok _ _ _ 5 _ (a4.tmps.getD 5 undef) from by rw [d5]; exact Sl.Ok.flat (i:=Typ.Xt.none) rfl (hT3 5 _ rfl) (RanS.of_below hb34) hPn) (slots_cons (show Sl.Ok _ _ _ 7 _ (a4.tmps.getD 7 undef) from by rw [d7]; exact Sl.Ok.flat (i:=Typ.Xt.none) rfl (hT3 7 _ rfl) (RanS.of_below hb34) hPn) (slots_cons (show VOk _ _ false [.env L] (a4.tmps.getD 8 undef) from by rw [e8]; exact vok_env ⟨hE4.weak (fun q a=>a.elim (fun b=>PB_none b.1) (hE4.own q)) (fun _ a=>Or.inr a),fun q a _=>(by rw [hjB]; exact hownlt q a),hrul⟩ (hinf.trans hL.symm)) (slots_cons (show VOk _ _ false [.dat (.bool true)] (a4.tmps.getD 9 undef) from by rw [d9]; exact vok_dat rfl) slots_nil))))))
 have hv5:a4.tmps.getD 8 undef=.pointer (some ⟨e,0,none⟩):=e8
 have hw4:Below w.heap.size w w4:=Trm.go hb3 hb34
 refine wp_seq (pin_ok (p:=rtP []) (s:=8) (hs2 _) hm (T':=[(0,.val false [.infs l]),(4,.var 25 [.tm (t)]),(5,.var 25 [.tm (m)]),(7,.val false [.strs Ns]),(8,.val false [.env L])]) (e:=.normal) (need:=true) (by kernel_rfl) rfl (s5.par rfl rfl) hv5 fun a6 w6 s6 hv6=>?_)
 refine wp_seq ?_
 refine wp_seq (pin_ok (p:=rtP []) (s:=8) (hs2 _) hm (T':=[(0,.val false [.infs l]),(4,.var 25 [.tm (t)]),(5,.var 25 [.tm (m)]),(7,.val false [.strs Ns]),(8,.val false [.env L]),(10,.val false [.dat (.int .i64 (((0:Nat):Int)))])]) (e:=.normal) (need:=true) (by kernel_rfl) rfl (s6.par rfl rfl) hv6 fun a7 w7 s7 hv7=>?_)
 refine wp_block ?_
 refine Typ.wp_loop_ghost (γ:=Nat) (fun k a' w'=>St P3 w4 (rtP []) [(0,.val false [.infs l]),(4,.var 25 [.tm (t)]),(5,.var 25 [.tm (m)]),(7,.val false [.strs Ns]),(8,.val false [.env L]),(10,.val false [.dat (.int .i64 ((k:Int)))])] a' w'∧a'.tmps.getD 8 undef=.pointer (some ⟨e,0,none⟩)∧k≤Ns.length∧∀ i:Nat,i < k→(fnd L (Ns.getD i ⟨#[]⟩)).2=true) (fun k=>Ns.length - k) (g0:=0) ⟨s7,hv7,Nat.zero_le _,fun i hi=>absurd hi (Nat.not_lt_zero _)⟩ ?_
 rintro k a' w' ⟨s8,hv8,hk,hall⟩
 by_cases hlt:k < Ns.length
 ·have l1:decide ((k:Int) < (Ns.length:Int))=true:=decide_eq_true (by omega)
  have l2:decide ((0:Int)≤(k:Int))=true:=decide_eq_true (by omega)
  have l3:decide (k < Ns.length)=true:=decide_eq_true hlt
  have l4:decide ((Ns.getD k ⟨#[]⟩).size≤9223372036854775807)=true:=decide_eq_true (by
   have:=hnmok (Ns.getD k ⟨#[]⟩) (by rw [getD_of hlt]; exact List.getElem_mem _)
   omega)
  have hw:IntKind.i64.wrap ((k:Int) + 1)=((k + 1:Nat):Int):=by
   have:=hNl
   rw [IntWalk.i64_in _ (by omega)]; simp
  cases hf:(fnd L (Ns.getD k ⟨#[]⟩)).2
  ·skip
   refine pin_ok (p:=rtP [(67,true),(80,true)]) (s:=8) (hs2 _) hm (T':=[(6,.val false [.dat (.bool true)])]) (e:=.ret) (need:=((decide ((k:Int) < (Ns.length:Int)) == true) && (((decide ((0:Int)≤(k:Int)) && decide (k < Ns.length)) && true) && (((decide ((Ns.getD k ⟨#[]⟩).size≤9223372036854775807)) && true) && (((!(fnd L (Ns.getD k ⟨#[]⟩)).2) == true) && true))))) (by kernel_rfl) (by rw [l1,l2,l3,l4,hf]; rfl) (s8.par rfl rfl) hv8 fun a9 w9 s9 _=>?_
   exact s9.fin rfl hw4
  ·skip
   refine pin_ok (p:=rtP [(67,true),(80,false)]) (s:=8) (hs2 _) hm (T':=[(0,.val false [.infs l]),(4,.var 25 [.tm (t)]),(5,.var 25 [.tm (m)]),(7,.val false [.strs Ns]),(8,.val false [.env L]),(10,.val false [.dat (.int .i64 (IntKind.i64.wrap ((k:Int) + 1)))])]) (e:=.normal) (need:=((decide ((k:Int) < (Ns.length:Int)) == true) && (((decide ((0:Int)≤(k:Int)) && decide (k < Ns.length)) && true) && (((decide ((Ns.getD k ⟨#[]⟩).size≤9223372036854775807)) && true) && (((!(fnd L (Ns.getD k ⟨#[]⟩)).2) == false) && true))))) (by kernel_rfl) (by rw [l1,l2,l3,l4,hf]; rfl) (s8.par rfl rfl) hv8 fun a9 w9 s9 hv9=>?_
   rw [hw] at s9
   exact ⟨k + 1,⟨s9.par rfl rfl,hv9,by omega,fun i hi=>by
    rcases Nat.lt_or_eq_of_le (Nat.le_of_lt_succ hi) with h | h
    ·exact hall i h
    ·subst h; exact hf⟩,by omega⟩
 have l1:decide ((k:Int) < (Ns.length:Int))=false:=decide_eq_false (by omega)
 refine pin_ok (p:=rtP [(67,false)]) (s:=8) (hs2 _) hm (T':=[(0,.val false [.infs l]),(4,.var 25 [.tm (t)]),(5,.var 25 [.tm (m)]),(8,.val false [.env L])]) (e:=.exit 0) (need:=((decide ((k:Int) < (Ns.length:Int)) == false) && true)) (by kernel_rfl) (by rw [l1]; rfl) (s8.par rfl rfl) hv8 fun b0 x0 r0 hvr0=>?_
 have hhave:∀ s ∈ Ns,(fnd L s).2=true:=fun s hs=>by
  obtain ⟨i,hi,rfl⟩:=List.getElem_of_mem hs
  have:=hall i (by omega)
  rwa [getD_of hi] at this
 have htt:There L (spM t).1:=there_head h3 fun s hs=>hhave s (hnmt s (Or.inl hs))
 have htm:There L (spM m).1:=there_head h4 fun s hs=>hhave s (hnmt s (Or.inr hs))
 have hfi:Fine L t m:=by rw [hL]; exact fine_smp t m
 have f1:=hfi.rn
 have f2:=hfi.it
 have f3:=hfi.fd
 have f4:=hfi.ln
 have f5:=hfi.nm
 clear s8 hv8 s7 hv7 s6 hv6 s5 hv5 hall hhave
 refine wp_seq (pin_ok (p:=rtP []) (s:=8) (hs2 _) hm (T':=[(0,.val false [.infs l]),(4,.var 25 [.tm (t)]),(5,.var 25 [.tm (m)]),(8,.val false [.env L]),(13,.var 25 [.tm ((dlt L t).1)]),(14,.val false [.dat (.int .i64 ((dlt L t).2))])]) (e:=.normal) (need:=true) (by kernel_rfl) rfl (r0.par rfl rfl) hvr0 fun b1 x1 r1 hvr1=>?_)
 refine wp_seq (pin_ok (p:=rtP []) (s:=8) (hs2 _) hm (T':=[(0,.val false [.infs l]),(4,.var 25 [.tm (t)]),(5,.var 25 [.tm (m)]),(8,.val false [.env L]),(13,.var 25 [.tm ((dlt L t).1)]),(14,.val false [.dat (.int .i64 ((dlt L t).2))]),(15,.var 25 [.tm ((iot L t m).1)]),(16,.val false [.dat (.int .i64 ((iot L t m).2))])]) (e:=.normal) (need:=(((decide ((rcr L (spM t).1 ((spM t).2.length:Int)).1.rules.length≤1000000) && iotC L t m) && true) && true)) (by kernel_rfl) (by rw [f1,f2]; rfl) (r1.par rfl rfl) hvr1 fun b2 x2 r2 hvr2=>?_)
 refine wp_seq (pin_ok (p:=rtP []) (s:=8) (hs2 _) hm (T':=[(0,.val false [.infs l]),(4,.var 25 [.tm (t)]),(5,.var 25 [.tm (m)]),(8,.val false [.env L]),(13,.var 25 [.tm ((dlt L t).1)]),(14,.val false [.dat (.int .i64 ((dlt L t).2))]),(15,.var 25 [.tm ((iot L t m).1)]),(16,.val false [.dat (.int .i64 ((iot L t m).2))]),(17,.var 25 [.tm ((fldA L ⟨#[80,97,105,114]⟩ 0 t).1)]),(18,.val false [.dat (.bool (fldA L ⟨#[80,97,105,114]⟩ 0 t).2)])]) (e:=.normal) (need:=((fldC L 0 t && true) && true)) (by kernel_rfl) (by rw [f3]; rfl) (r2.par rfl rfl) hvr2 fun b3 x3 r3 hvr3=>?_)
 refine wp_seq (pin_ok (p:=rtP []) (s:=8) (hs2 _) hm (T':=[(0,.val false [.infs l]),(4,.var 25 [.tm (t)]),(5,.var 25 [.tm (m)]),(8,.val false [.env L]),(13,.var 25 [.tm ((dlt L t).1)]),(14,.val false [.dat (.int .i64 ((dlt L t).2))]),(15,.var 25 [.tm ((iot L t m).1)]),(16,.val false [.dat (.int .i64 ((iot L t m).2))]),(17,.var 25 [.tm ((fldA L ⟨#[80,97,105,114]⟩ 0 t).1)]),(18,.val false [.dat (.bool (fldA L ⟨#[80,97,105,114]⟩ 0 t).2)]),(19,.var 53 (infCh (rcd L ⟨#[80,97,105,114]⟩).1)),(20,.val false [.dat (.bool (rcd L ⟨#[80,97,105,114]⟩).2)])]) (e:=.normal) (need:=(((decide (L.length≤1000000) && (nmsOf L).all (fun n=>decide (n.size≤9223372036854775807))) && true) && true)) (by kernel_rfl) (by rw [f4,f5]; rfl) (r3.par rfl rfl) hvr3 fun b4 x4 r4 hvr4=>?_)
 obtain ⟨fr6,hF6,hT6⟩:=r4.ex
 have hd6:=r4.defers
 have hn6:=r4.size
 have hb46:Below w4.heap.size w4 x4:=hF6.bel
 have hE6:=hE4.below hb46
 have g0:Grow w e (rtP []) [(0,.val false [.infs l]),(4,.var 25 [.tm (t)]),(5,.var 25 [.tm (m)]),(13,.var 25 [.tm ((dlt L t).1)]),(14,.val false [.dat (.int .i64 ((dlt L t).2))]),(15,.var 25 [.tm ((iot L t m).1)]),(16,.val false [.dat (.int .i64 ((iot L t m).2))]),(17,.var 25 [.tm ((fldA L ⟨#[80,97,105,114]⟩ 0 t).1)]),(18,.val false [.dat (.bool (fldA L ⟨#[80,97,105,114]⟩ 0 t).2)]),(19,.var 53 (infCh (rcd L ⟨#[80,97,105,114]⟩).1)),(20,.val false [.dat (.bool (rcd L ⟨#[80,97,105,114]⟩).2)]),(8,.val false [.dat (.pointer (some ⟨e,0,none⟩))])] b4 x4:=by
  refine ⟨flatB_ok rfl,P3,x4,E,mo,v,hE6,hrul,⟨[],by rw [hinf,List.append_nil]⟩,Trm.go hw4 hb46,fun q a=>by have:=hown q a; have:=hb3.size; omega,?_⟩
  have old:∀ k x,Typ.look ([(0,.val false [.infs l]),(4,.var 25 [.tm (t)]),(5,.var 25 [.tm (m)]),(8,.val false [.env L]),(13,.var 25 [.tm ((dlt L t).1)]),(14,.val false [.dat (.int .i64 ((dlt L t).2))]),(15,.var 25 [.tm ((iot L t m).1)]),(16,.val false [.dat (.int .i64 ((iot L t m).2))]),(17,.var 25 [.tm ((fldA L ⟨#[80,97,105,114]⟩ 0 t).1)]),(18,.val false [.dat (.bool (fldA L ⟨#[80,97,105,114]⟩ 0 t).2)]),(19,.var 53 (infCh (rcd L ⟨#[80,97,105,114]⟩).1)),(20,.val false [.dat (.bool (rcd L ⟨#[80,97,105,114]⟩).2)])]:Tbl Sl) k=some x→x.flat=true→@Sl.Ok Typ.Xt.none (PB P3 fun _=>none) (fun _=>none) x4 k x (b4.tmps.getD k undef):=fun k x hk hx=>Sl.Ok.flat (i:=jB) hx (hT6 k x hk) (RanS.refl _ _) (fun q hq=>Or.inl (Or.inl (PB_none hq)))
  exact St.made (j:=Typ.Xt.none) (@Typ.Lt.mk Typ.Xt.none _ _ hE6.lt (Nat.zero_le _)) hd6 hn6 (Or.inl (flatB_ok rfl)) (slots_cons (old 0 _ rfl rfl) (slots_cons (old 4 _ rfl rfl) (slots_cons (old 5 _ rfl rfl) (slots_cons (old 13 _ rfl rfl) (slots_cons (old 14 _ rfl rfl) (slots_cons (old 15 _ rfl rfl) (slots_cons (old 16 _ rfl rfl) (slots_cons (old 17 _ rfl rfl) (slots_cons (old 18 _ rfl rfl) (slots_cons (old 19 _ rfl rfl) (slots_cons (old 20 _ rfl rfl) (slots_cons (show @VOk Typ.Xt.none _ _ false [.dat (.pointer (some ⟨e,0,none⟩))] (b4.tmps.getD 8 undef) from by rw [hvr4]; exact @vok_dat Typ.Xt.none _ _ _ rfl) slots_nil))))))))))))
 clear r0 r1 r2 r3 r4 hvr0 hvr1 hvr2 hvr3 hvr4 hF6 hT6 hs2 hE6 hb46 hd6 hn6
 clear hjB jB
 refine wp_seq ?_
 refine wp_seq (grow_ok (p:=rtP []) (hs _) hm (T':=[(0,.val false [.infs l]),(4,.var 25 [.tm (t)]),(5,.var 25 [.tm (m)]),(13,.var 25 [.tm ((dlt L t).1)]),(14,.val false [.dat (.int .i64 ((dlt L t).2))]),(15,.var 25 [.tm ((iot L t m).1)]),(16,.val false [.dat (.int .i64 ((iot L t m).2))]),(17,.var 25 [.tm ((fldA L ⟨#[80,97,105,114]⟩ 0 t).1)]),(18,.val false [.dat (.bool (fldA L ⟨#[80,97,105,114]⟩ 0 t).2)]),(19,.var 53 (infCh (rcd L ⟨#[80,97,105,114]⟩).1)),(20,.val false [.dat (.bool (rcd L ⟨#[80,97,105,114]⟩).2)]),(8,.val false [.dat (.pointer (some ⟨e,0,none⟩))]),(21,.val false [.dat (.int .i64 (((0:Nat):Int)))])]) (e:=.normal) (need:=true) (by kernel_rfl) rfl (g0.par rfl rfl) fun a7 w7 g7=>?_)
 refine wp_block ?_
 refine Typ.wp_loop_ghost (γ:=Nat) (fun k a' w'=>Grow w e (rtP []) [(0,.val false [.infs l]),(4,.var 25 [.tm (t)]),(5,.var 25 [.tm (m)]),(13,.var 25 [.tm ((dlt L t).1)]),(14,.val false [.dat (.int .i64 ((dlt L t).2))]),(15,.var 25 [.tm ((iot L t m).1)]),(16,.val false [.dat (.int .i64 ((iot L t m).2))]),(17,.var 25 [.tm ((fldA L ⟨#[80,97,105,114]⟩ 0 t).1)]),(18,.val false [.dat (.bool (fldA L ⟨#[80,97,105,114]⟩ 0 t).2)]),(19,.var 53 (infCh (rcd L ⟨#[80,97,105,114]⟩).1)),(20,.val false [.dat (.bool (rcd L ⟨#[80,97,105,114]⟩).2)]),(8,.val false [.dat (.pointer (some ⟨e,0,none⟩))]),(21,.val false [.dat (.int .i64 ((k:Int)))])] a' w'∧k≤l.length) (fun k=>l.length - k) (g0:=0) ⟨g7,Nat.zero_le _⟩ ?_
 rintro k a' w' ⟨g8,hk⟩
 by_cases hlt:k < l.length
 ·have l1:decide ((k:Int) < (l.length:Int))=true:=decide_eq_true (by omega)
  have l2:decide ((0:Int)≤(k:Int))=true:=decide_eq_true (by omega)
  have l3:decide (k < l.length)=true:=decide_eq_true hlt
  have hl30:=of_decide_eq_false h5
  have hw:IntKind.i64.wrap ((k:Int) + 1)=((k + 1:Nat):Int):=by rw [IntWalk.i64_in _ (by omega)]; simp
  refine wp_seq (grow_ok (p:=rtP [(109,true)]) (hs _) hm (T':=[(0,.val false [.infs l]),(4,.var 25 [.tm (t)]),(5,.var 25 [.tm (m)]),(13,.var 25 [.tm ((dlt L t).1)]),(14,.val false [.dat (.int .i64 ((dlt L t).2))]),(15,.var 25 [.tm ((iot L t m).1)]),(16,.val false [.dat (.int .i64 ((iot L t m).2))]),(17,.var 25 [.tm ((fldA L ⟨#[80,97,105,114]⟩ 0 t).1)]),(18,.val false [.dat (.bool (fldA L ⟨#[80,97,105,114]⟩ 0 t).2)]),(19,.var 53 (infCh (rcd L ⟨#[80,97,105,114]⟩).1)),(20,.val false [.dat (.bool (rcd L ⟨#[80,97,105,114]⟩).2)]),(8,.val false [.dat (.pointer (some ⟨e,0,none⟩))]),(21,.val false [.dat (.int .i64 ((k:Int)))])]) (e:=.normal) (need:=((decide ((k:Int) < (l.length:Int)) == true) && true)) (by kernel_rfl) (by rw [l1]; rfl) (g8.par rfl rfl) fun a9 w9 g9=>?_)
  refine wp_seq ?_
  refine wp_block ?_
  cases k1:decide (((l.getD k zI0).rules.length:Int) > 20)
  case true =>
   refine wp_seq ?_
   refine grow_ok (p:=rtP [(119,true)]) (hs _) hm (T':=[(6,.val false [.dat (.bool true)])]) (e:=.ret) (need:=(((decide ((0:Int)≤(k:Int)) && decide (k < l.length)) && true) && ((decide (((l.getD k zI0).rules.length:Int) > 20) == true) && true))) (by kernel_rfl) (by rw [l2,l3,k1]; rfl) (g9.par rfl rfl) fun d1 v1 g10=>?_
   exact g10.fin rfl
  cases k2:(l.getD k zI0).ty.deep
  case true =>
   refine wp_seq ?_
   refine grow_ok (p:=rtP [(119,false),(127,true)]) (hs _) hm (T':=[(6,.val false [.dat (.bool true)])]) (e:=.ret) (need:=(((decide ((0:Int)≤(k:Int)) && decide (k < l.length)) && true) && ((decide (((l.getD k zI0).rules.length:Int) > 20) == false) && (((decide ((0:Int)≤(k:Int)) && decide (k < l.length)) && true) && (((l.getD k zI0).ty.deep == true) && true))))) (by kernel_rfl) (by rw [l2,l3,k1,k2]; rfl) (g9.par rfl rfl) fun d1 v1 g10=>?_
   exact g10.fin rfl
  cases k3:(l.getD k zI0).va.deep
  case true =>
   refine wp_seq ?_
   refine grow_ok (p:=rtP [(119,false),(127,false),(135,true)]) (hs _) hm (T':=[(6,.val false [.dat (.bool true)])]) (e:=.ret) (need:=(((decide ((0:Int)≤(k:Int)) && decide (k < l.length)) && true) && ((decide (((l.getD k zI0).rules.length:Int) > 20) == false) && (((decide ((0:Int)≤(k:Int)) && decide (k < l.length)) && true) && (((l.getD k zI0).ty.deep == false) && (((decide ((0:Int)≤(k:Int)) && decide (k < l.length)) && true) && (((l.getD k zI0).va.deep == true) && true))))))) (by kernel_rfl) (by rw [l2,l3,k1,k2,k3]; rfl) (g9.par rfl rfl) fun d1 v1 g10=>?_
   exact g10.fin rfl
  cases k4:decide (((l.getD k zI0).name.size:Int) > 100)
  case true =>
   refine wp_seq ?_
   refine grow_ok (p:=rtP [(119,false),(127,false),(135,false),(143,true)]) (hs _) hm (T':=[(6,.val false [.dat (.bool true)])]) (e:=.ret) (need:=(((decide ((0:Int)≤(k:Int)) && decide (k < l.length)) && true) && ((decide (((l.getD k zI0).rules.length:Int) > 20) == false) && (((decide ((0:Int)≤(k:Int)) && decide (k < l.length)) && true) && (((l.getD k zI0).ty.deep == false) && (((decide ((0:Int)≤(k:Int)) && decide (k < l.length)) && true) && (((l.getD k zI0).va.deep == false) && (((decide ((0:Int)≤(k:Int)) && decide (k < l.length)) && true) && ((decide (((l.getD k zI0).name.size:Int) > 100) == true) && true))))))))) (by kernel_rfl) (by rw [l2,l3,k1,k2,k3,k4]; rfl) (g9.par rfl rfl) fun d1 v1 g10=>?_
   exact g10.fin rfl
  refine wp_seq (grow_ok (p:=rtP [(119,false),(127,false),(135,false),(143,false)]) (hs _) hm (T':=[(0,.val false [.infs l]),(4,.var 25 [.tm (t)]),(5,.var 25 [.tm (m)]),(13,.var 25 [.tm ((dlt L t).1)]),(14,.val false [.dat (.int .i64 ((dlt L t).2))]),(15,.var 25 [.tm ((iot L t m).1)]),(16,.val false [.dat (.int .i64 ((iot L t m).2))]),(17,.var 25 [.tm ((fldA L ⟨#[80,97,105,114]⟩ 0 t).1)]),(18,.val false [.dat (.bool (fldA L ⟨#[80,97,105,114]⟩ 0 t).2)]),(19,.var 53 (infCh (rcd L ⟨#[80,97,105,114]⟩).1)),(20,.val false [.dat (.bool (rcd L ⟨#[80,97,105,114]⟩).2)]),(8,.val false [.dat (.pointer (some ⟨e,0,none⟩))]),(21,.val false [.dat (.int .i64 ((k:Int)))])]) (e:=.normal) (need:=(((decide ((0:Int)≤(k:Int)) && decide (k < l.length)) && true) && ((decide (((l.getD k zI0).rules.length:Int) > 20) == false) && (((decide ((0:Int)≤(k:Int)) && decide (k < l.length)) && true) && (((l.getD k zI0).ty.deep == false) && (((decide ((0:Int)≤(k:Int)) && decide (k < l.length)) && true) && (((l.getD k zI0).va.deep == false) && (((decide ((0:Int)≤(k:Int)) && decide (k < l.length)) && true) && ((decide (((l.getD k zI0).name.size:Int) > 100) == false) && true))))))))) (by kernel_rfl) (by rw [l2,l3,k1,k2,k3,k4]; rfl) (g9.par rfl rfl) fun d1 v1 g10=>?_)
  have hr20:=of_decide_eq_false k1
  refine wp_seq ?_
  refine wp_seq (grow_ok (p:=rtP []) (hs _) hm (T':=[(0,.val false [.infs l]),(4,.var 25 [.tm (t)]),(5,.var 25 [.tm (m)]),(13,.var 25 [.tm ((dlt L t).1)]),(14,.val false [.dat (.int .i64 ((dlt L t).2))]),(15,.var 25 [.tm ((iot L t m).1)]),(16,.val false [.dat (.int .i64 ((iot L t m).2))]),(17,.var 25 [.tm ((fldA L ⟨#[80,97,105,114]⟩ 0 t).1)]),(18,.val false [.dat (.bool (fldA L ⟨#[80,97,105,114]⟩ 0 t).2)]),(19,.var 53 (infCh (rcd L ⟨#[80,97,105,114]⟩).1)),(20,.val false [.dat (.bool (rcd L ⟨#[80,97,105,114]⟩).2)]),(8,.val false [.dat (.pointer (some ⟨e,0,none⟩))]),(21,.val false [.dat (.int .i64 ((k:Int)))]),(22,.val false [.dat (.int .i64 (((0:Nat):Int)))])]) (e:=.normal) (need:=true) (by kernel_rfl) rfl (g10.par rfl rfl) fun d2 v2 g11=>?_)
  refine wp_block ?_
  refine Typ.wp_loop_ghost (γ:=Nat) (fun j a' w'=>Grow w e (rtP []) [(0,.val false [.infs l]),(4,.var 25 [.tm (t)]),(5,.var 25 [.tm (m)]),(13,.var 25 [.tm ((dlt L t).1)]),(14,.val false [.dat (.int .i64 ((dlt L t).2))]),(15,.var 25 [.tm ((iot L t m).1)]),(16,.val false [.dat (.int .i64 ((iot L t m).2))]),(17,.var 25 [.tm ((fldA L ⟨#[80,97,105,114]⟩ 0 t).1)]),(18,.val false [.dat (.bool (fldA L ⟨#[80,97,105,114]⟩ 0 t).2)]),(19,.var 53 (infCh (rcd L ⟨#[80,97,105,114]⟩).1)),(20,.val false [.dat (.bool (rcd L ⟨#[80,97,105,114]⟩).2)]),(8,.val false [.dat (.pointer (some ⟨e,0,none⟩))]),(21,.val false [.dat (.int .i64 ((k:Int)))]),(22,.val false [.dat (.int .i64 ((j:Int)))])] a' w'∧j≤(l.getD k zI0).rules.length) (fun j=>(l.getD k zI0).rules.length - j) (g0:=0) ⟨g11,Nat.zero_le _⟩ ?_
  rintro j a'' w'' ⟨g12,hj⟩
  by_cases hjl:j < (l.getD k zI0).rules.length
  ·have m1:decide ((j:Int) < ((l.getD k zI0).rules.length:Int))=true:=decide_eq_true (by omega)
   have m2:decide ((0:Int)≤(j:Int))=true:=decide_eq_true (by omega)
   have m3:decide (j < (l.getD k zI0).rules.length)=true:=decide_eq_true hjl
   have hwj:IntKind.i64.wrap ((j:Int) + 1)=((j + 1:Nat):Int):=by rw [IntWalk.i64_in _ (by omega)]; simp
   cases kd:((l.getD k zI0).rules.getD j zR0).body.deep
   ·skip
    refine grow_ok (p:=rtP [(152,true),(164,false)]) (hs _) hm (T':=[(0,.val false [.infs l]),(4,.var 25 [.tm (t)]),(5,.var 25 [.tm (m)]),(13,.var 25 [.tm ((dlt L t).1)]),(14,.val false [.dat (.int .i64 ((dlt L t).2))]),(15,.var 25 [.tm ((iot L t m).1)]),(16,.val false [.dat (.int .i64 ((iot L t m).2))]),(17,.var 25 [.tm ((fldA L ⟨#[80,97,105,114]⟩ 0 t).1)]),(18,.val false [.dat (.bool (fldA L ⟨#[80,97,105,114]⟩ 0 t).2)]),(19,.var 53 (infCh (rcd L ⟨#[80,97,105,114]⟩).1)),(20,.val false [.dat (.bool (rcd L ⟨#[80,97,105,114]⟩).2)]),(8,.val false [.dat (.pointer (some ⟨e,0,none⟩))]),(21,.val false [.dat (.int .i64 ((k:Int)))]),(22,.val false [.dat (.int .i64 (IntKind.i64.wrap ((j:Int) + 1)))])]) (e:=.normal) (need:=(((decide ((0:Int)≤(k:Int)) && decide (k < l.length)) && true) && ((decide ((j:Int) < ((l.getD k zI0).rules.length:Int)) == true) && (((decide ((0:Int)≤(k:Int)) && decide (k < l.length)) && true) && (((decide ((0:Int)≤(j:Int)) && decide (j < (l.getD k zI0).rules.length)) && true) && ((((l.getD k zI0).rules.getD j zR0).body.deep == false) && true)))))) (by kernel_rfl) (by rw [l2,l3,m1,m2,m3,kd]; rfl) (g12.par rfl rfl) fun d3 v3 g13=>?_
    rw [hwj] at g13
    exact ⟨j + 1,⟨g13.par rfl rfl,by omega⟩,by omega⟩
   ·skip
    refine grow_ok (p:=rtP [(152,true),(164,true)]) (hs _) hm (T':=[(6,.val false [.dat (.bool true)])]) (e:=.ret) (need:=(((decide ((0:Int)≤(k:Int)) && decide (k < l.length)) && true) && ((decide ((j:Int) < ((l.getD k zI0).rules.length:Int)) == true) && (((decide ((0:Int)≤(k:Int)) && decide (k < l.length)) && true) && (((decide ((0:Int)≤(j:Int)) && decide (j < (l.getD k zI0).rules.length)) && true) && ((((l.getD k zI0).rules.getD j zR0).body.deep == true) && true)))))) (by kernel_rfl) (by rw [l2,l3,m1,m2,m3,kd]; rfl) (g12.par rfl rfl) fun d3 v3 g13=>?_
    exact g13.fin rfl
  have m1:decide ((j:Int) < ((l.getD k zI0).rules.length:Int))=false:=decide_eq_false (by omega)
  refine grow_ok (p:=rtP [(152,false)]) (hs _) hm (T':=[(0,.val false [.infs l]),(4,.var 25 [.tm (t)]),(5,.var 25 [.tm (m)]),(13,.var 25 [.tm ((dlt L t).1)]),(14,.val false [.dat (.int .i64 ((dlt L t).2))]),(15,.var 25 [.tm ((iot L t m).1)]),(16,.val false [.dat (.int .i64 ((iot L t m).2))]),(17,.var 25 [.tm ((fldA L ⟨#[80,97,105,114]⟩ 0 t).1)]),(18,.val false [.dat (.bool (fldA L ⟨#[80,97,105,114]⟩ 0 t).2)]),(19,.var 53 (infCh (rcd L ⟨#[80,97,105,114]⟩).1)),(20,.val false [.dat (.bool (rcd L ⟨#[80,97,105,114]⟩).2)]),(8,.val false [.dat (.pointer (some ⟨e,0,none⟩))]),(21,.val false [.dat (.int .i64 ((k:Int)))])]) (e:=.exit 4) (need:=(((decide ((0:Int)≤(k:Int)) && decide (k < l.length)) && true) && ((decide ((j:Int) < ((l.getD k zI0).rules.length:Int)) == false) && true))) (by kernel_rfl) (by rw [l2,l3,m1]; rfl) (g12.par rfl rfl) fun d4 v4 g14=>?_
  have hr1000:decide ((l.getD k zI0).rules.length≤1000)=true:=decide_eq_true (by omega)
  have hft:=hfits k hlt
  have hee:decide (e=e)=true:=decide_eq_true rfl
  refine grow_ok (p:=rtP []) (hs _) hm (T':=[(0,.val false [.infs l]),(4,.var 25 [.tm (t)]),(5,.var 25 [.tm (m)]),(13,.var 25 [.tm ((dlt L t).1)]),(14,.val false [.dat (.int .i64 ((dlt L t).2))]),(15,.var 25 [.tm ((iot L t m).1)]),(16,.val false [.dat (.int .i64 ((iot L t m).2))]),(17,.var 25 [.tm ((fldA L ⟨#[80,97,105,114]⟩ 0 t).1)]),(18,.val false [.dat (.bool (fldA L ⟨#[80,97,105,114]⟩ 0 t).2)]),(19,.var 53 (infCh (rcd L ⟨#[80,97,105,114]⟩).1)),(20,.val false [.dat (.bool (rcd L ⟨#[80,97,105,114]⟩).2)]),(8,.val false [.dat (.pointer (some ⟨e,0,none⟩))]),(21,.val false [.dat (.int .i64 ((k:Int)))])]) (e:=.normal) (need:=(((decide ((0:Int)≤(k:Int)) && decide (k < l.length)) && true) && ((fitI (l.getD k zI0) && true) && ((decide (e=e) && (decide ([(l.getD k zI0)].length≤1000000) && (decide ((l.getD k zI0).rules.length≤1000) && true))) && true)))) (by kernel_rfl) (by rw [l2,l3,hee,hr1000,hft]; rfl) (g14.par rfl rfl) fun d5 v5 g15=>?_
  refine grow_ok (p:=rtP []) (hs _) hm (T':=[(0,.val false [.infs l]),(4,.var 25 [.tm (t)]),(5,.var 25 [.tm (m)]),(13,.var 25 [.tm ((dlt L t).1)]),(14,.val false [.dat (.int .i64 ((dlt L t).2))]),(15,.var 25 [.tm ((iot L t m).1)]),(16,.val false [.dat (.int .i64 ((iot L t m).2))]),(17,.var 25 [.tm ((fldA L ⟨#[80,97,105,114]⟩ 0 t).1)]),(18,.val false [.dat (.bool (fldA L ⟨#[80,97,105,114]⟩ 0 t).2)]),(19,.var 53 (infCh (rcd L ⟨#[80,97,105,114]⟩).1)),(20,.val false [.dat (.bool (rcd L ⟨#[80,97,105,114]⟩).2)]),(8,.val false [.dat (.pointer (some ⟨e,0,none⟩))]),(21,.val false [.dat (.int .i64 (IntKind.i64.wrap ((k:Int) + 1)))])]) (e:=.normal) (need:=true) (by kernel_rfl) rfl (g15.par rfl rfl) fun d6 v6 g16=>?_
  rw [hw] at g16
  exact ⟨k + 1,⟨g16.par rfl rfl,by omega⟩,by omega⟩
 have l1:decide ((k:Int) < (l.length:Int))=false:=decide_eq_false (by omega)
 refine grow_ok (p:=rtP [(109,false)]) (hs _) hm (T':=[(0,.val false [.infs l]),(4,.var 25 [.tm (t)]),(5,.var 25 [.tm (m)]),(13,.var 25 [.tm ((dlt L t).1)]),(14,.val false [.dat (.int .i64 ((dlt L t).2))]),(15,.var 25 [.tm ((iot L t m).1)]),(16,.val false [.dat (.int .i64 ((iot L t m).2))]),(17,.var 25 [.tm ((fldA L ⟨#[80,97,105,114]⟩ 0 t).1)]),(18,.val false [.dat (.bool (fldA L ⟨#[80,97,105,114]⟩ 0 t).2)]),(19,.var 53 (infCh (rcd L ⟨#[80,97,105,114]⟩).1)),(20,.val false [.dat (.bool (rcd L ⟨#[80,97,105,114]⟩).2)]),(8,.val false [.dat (.pointer (some ⟨e,0,none⟩))])]) (e:=.exit 2) (need:=((decide ((k:Int) < (l.length:Int)) == false) && true)) (by kernel_rfl) (by rw [l1]; rfl) (g8.par rfl rfl) fun c0 y0 g17=>?_
 clear g8 g7 g0
 obtain ⟨_,P,w0,M,mo2,v2,hE,hru,⟨X,hX⟩,hbl,hown2,st⟩:=g17
 obtain ⟨fr9,hF9,hT9⟩:=@St.ex Typ.Xt.none _ _ _ _ _ _ st
 have hd9:=@St.defers Typ.Xt.none _ _ _ _ _ _ st
 have hn9:=@St.size Typ.Xt.none _ _ _ _ _ _ st
 have hb9:=@Fr.bel Typ.Xt.none _ _ _ _ hF9
 have hE9:EnvP P 0 y0 e M mo2 v2:=hE.below hb9
 have hw9:Below w.heap.size w y0:=Trm.go hbl hb9
 have e9:c0.tmps.getD 8 undef=.pointer (some ⟨e,0,none⟩):=@arg_dat Typ.Xt.none _ _ _ _ (hT9 8 _ rfl)
 rw [hL] at htt htm
 have hfi2:Fine (Env.infs M) t m:=fine_env hE9 hX htt htm
 have q1:dlt (Env.infs M) t=dlt L t:=by rw [hX,hL]; exact dlt_app X htt
 have q2:iot (Env.infs M) t m=iot L t m:=by rw [hX,hL]; exact iot_app X htt htm
 have q3:fldA (Env.infs M) ⟨#[80,97,105,114]⟩ 0 t=fldA L ⟨#[80,97,105,114]⟩ 0 t:=by rw [hX,hL]; exact fldA_app X 0 smp_pair htt
 have q4:rcd (Env.infs M) ⟨#[80,97,105,114]⟩=rcd L ⟨#[80,97,105,114]⟩:=by rw [hX,hL]; exact rcd_app X smp_pair smp_rcd
 have hrd:(rcd L ⟨#[80,97,105,114]⟩).1.rules.length≤1000:=by rw [hL]; exact of_decide_eq_true smp_rcdr
 obtain ⟨L2,hL2⟩:∃ L2,L2=Env.infs M:=⟨_,rfl⟩
 rw [← hL2] at hfi2 q1 q2 q3 q4
 clear f1 f2 f3 f4 f5
 have f1:=hfi2.rn
 have f2:=hfi2.it
 have f3:=hfi2.fd
 have f4:=hfi2.ln
 have f5:=hfi2.nm
 obtain ⟨jD,hjD⟩:∃ j:Typ.Xt,j.B=y0.heap.size:=⟨⟨_⟩,rfl⟩
 have u0:@St jD P y0 (rtP []) [(4,.var 25 [.tm (t)]),(5,.var 25 [.tm (m)]),(13,.var 25 [.tm ((dlt L t).1)]),(14,.val false [.dat (.int .i64 ((dlt L t).2))]),(15,.var 25 [.tm ((iot L t m).1)]),(16,.val false [.dat (.int .i64 ((iot L t m).2))]),(17,.var 25 [.tm ((fldA L ⟨#[80,97,105,114]⟩ 0 t).1)]),(18,.val false [.dat (.bool (fldA L ⟨#[80,97,105,114]⟩ 0 t).2)]),(19,.var 53 (infCh (rcd L ⟨#[80,97,105,114]⟩).1)),(20,.val false [.dat (.bool (rcd L ⟨#[80,97,105,114]⟩).2)]),(8,.val false [.env L2])] c0 y0:=by
  have old:∀ k x,Typ.look ([(0,.val false [.infs l]),(4,.var 25 [.tm (t)]),(5,.var 25 [.tm (m)]),(13,.var 25 [.tm ((dlt L t).1)]),(14,.val false [.dat (.int .i64 ((dlt L t).2))]),(15,.var 25 [.tm ((iot L t m).1)]),(16,.val false [.dat (.int .i64 ((iot L t m).2))]),(17,.var 25 [.tm ((fldA L ⟨#[80,97,105,114]⟩ 0 t).1)]),(18,.val false [.dat (.bool (fldA L ⟨#[80,97,105,114]⟩ 0 t).2)]),(19,.var 53 (infCh (rcd L ⟨#[80,97,105,114]⟩).1)),(20,.val false [.dat (.bool (rcd L ⟨#[80,97,105,114]⟩).2)]),(8,.val false [.dat (.pointer (some ⟨e,0,none⟩))])]:Tbl Sl) k=some x→x.flat=true→@Sl.Ok jD (PB P fun _=>none) (fun _=>none) y0 k x (c0.tmps.getD k undef):=fun k x hk hx=>Sl.Ok.flat (i:=Typ.Xt.none) hx (hT9 k x hk) (RanS.refl _ _) (fun q hq=>Or.inl (Or.inl (PB_none hq)))
  refine St.made ⟨hE9.lt,Nat.le_of_eq hjD⟩ hd9 hn9 (Or.inr ?_) (slots_cons (old 4 _ rfl rfl) (slots_cons (old 5 _ rfl rfl) (slots_cons (old 13 _ rfl rfl) (slots_cons (old 14 _ rfl rfl) (slots_cons (old 15 _ rfl rfl) (slots_cons (old 16 _ rfl rfl) (slots_cons (old 17 _ rfl rfl) (slots_cons (old 18 _ rfl rfl) (slots_cons (old 19 _ rfl rfl) (slots_cons (old 20 _ rfl rfl) (slots_cons (show VOk _ _ false [.env L2] (c0.tmps.getD 8 undef) from by rw [e9]; exact vok_env ⟨hE9.weak (fun q a=>a.elim (fun b=>PB_none b.1) (hE9.own q)) (fun _ a=>Or.inr a),fun q a _=>(by rw [hjD]; exact hE9.lt q (hE9.own q a)),hru⟩ hL2.symm) slots_nil)))))))))))
  intro t x hl
  have hl:=look_mem hl
  simp only [List.mem_cons,Prod.mk.injEq,List.not_mem_nil,or_false] at hl
  rcases hl with ⟨_,rfl⟩ | ⟨_,rfl⟩ | ⟨_,rfl⟩ | ⟨_,rfl⟩ | ⟨_,rfl⟩ | ⟨_,rfl⟩ | ⟨_,rfl⟩ | ⟨_,rfl⟩ | ⟨_,rfl⟩ | ⟨_,rfl⟩ | ⟨_,rfl⟩
  all_goals first | exact ⟨_,_,Or.inl rfl⟩ | exact ⟨true,_,Or.inr ⟨_,rfl⟩⟩
 have hs:∀ ov,@ParOk jD (rtP ov):=fun _=>par_ok sp26_ok
 refine wp_seq (piece_ok (p:=rtP []) (hs _) hm (T':=[(4,.var 25 [.tm (t)]),(5,.var 25 [.tm (m)]),(13,.var 25 [.tm ((dlt L t).1)]),(14,.val false [.dat (.int .i64 ((dlt L t).2))]),(15,.var 25 [.tm ((iot L t m).1)]),(16,.val false [.dat (.int .i64 ((iot L t m).2))]),(17,.var 25 [.tm ((fldA L ⟨#[80,97,105,114]⟩ 0 t).1)]),(18,.val false [.dat (.bool (fldA L ⟨#[80,97,105,114]⟩ 0 t).2)]),(19,.var 53 (infCh (rcd L ⟨#[80,97,105,114]⟩).1)),(20,.val false [.dat (.bool (rcd L ⟨#[80,97,105,114]⟩).2)]),(8,.val false [.env L2]),(23,.var 25 [.tm ((dlt L2 t).1)]),(24,.val false [.dat (.int .i64 ((dlt L2 t).2))])]) (e:=.normal) (need:=true) (by kernel_rfl) rfl (u0.par rfl rfl) fun c1 y1 u1=>?_)
 refine wp_seq (piece_ok (p:=rtP []) (hs _) hm (T':=[(4,.var 25 [.tm (t)]),(5,.var 25 [.tm (m)]),(13,.var 25 [.tm ((dlt L t).1)]),(14,.val false [.dat (.int .i64 ((dlt L t).2))]),(15,.var 25 [.tm ((iot L t m).1)]),(16,.val false [.dat (.int .i64 ((iot L t m).2))]),(17,.var 25 [.tm ((fldA L ⟨#[80,97,105,114]⟩ 0 t).1)]),(18,.val false [.dat (.bool (fldA L ⟨#[80,97,105,114]⟩ 0 t).2)]),(19,.var 53 (infCh (rcd L ⟨#[80,97,105,114]⟩).1)),(20,.val false [.dat (.bool (rcd L ⟨#[80,97,105,114]⟩).2)]),(8,.val false [.env L2]),(23,.var 25 [.tm ((dlt L2 t).1)]),(24,.val false [.dat (.int .i64 ((dlt L2 t).2))]),(25,.var 25 [.tm ((iot L2 t m).1)]),(26,.val false [.dat (.int .i64 ((iot L2 t m).2))])]) (e:=.normal) (need:=(((decide ((rcr L2 (spM t).1 ((spM t).2.length:Int)).1.rules.length≤1000000) && iotC L2 t m) && true) && true)) (by kernel_rfl) (by rw [f1,f2]; rfl) (u1.par rfl rfl) fun c2 y2 u2=>?_)
 refine wp_seq (piece_ok (p:=rtP []) (hs _) hm (T':=[(4,.var 25 [.tm (t)]),(5,.var 25 [.tm (m)]),(13,.var 25 [.tm ((dlt L t).1)]),(14,.val false [.dat (.int .i64 ((dlt L t).2))]),(15,.var 25 [.tm ((iot L t m).1)]),(16,.val false [.dat (.int .i64 ((iot L t m).2))]),(17,.var 25 [.tm ((fldA L ⟨#[80,97,105,114]⟩ 0 t).1)]),(18,.val false [.dat (.bool (fldA L ⟨#[80,97,105,114]⟩ 0 t).2)]),(19,.var 53 (infCh (rcd L ⟨#[80,97,105,114]⟩).1)),(20,.val false [.dat (.bool (rcd L ⟨#[80,97,105,114]⟩).2)]),(8,.val false [.env L2]),(23,.var 25 [.tm ((dlt L2 t).1)]),(24,.val false [.dat (.int .i64 ((dlt L2 t).2))]),(25,.var 25 [.tm ((iot L2 t m).1)]),(26,.val false [.dat (.int .i64 ((iot L2 t m).2))]),(27,.var 25 [.tm ((fldA L2 ⟨#[80,97,105,114]⟩ 0 t).1)]),(28,.val false [.dat (.bool (fldA L2 ⟨#[80,97,105,114]⟩ 0 t).2)])]) (e:=.normal) (need:=((fldC L2 0 t && true) && true)) (by kernel_rfl) (by rw [f3]; rfl) (u2.par rfl rfl) fun c3 y3 u3=>?_)
 refine wp_seq (piece_ok (p:=rtP []) (hs _) hm (T':=[(4,.var 25 [.tm (t)]),(5,.var 25 [.tm (m)]),(13,.var 25 [.tm ((dlt L t).1)]),(14,.val false [.dat (.int .i64 ((dlt L t).2))]),(15,.var 25 [.tm ((iot L t m).1)]),(16,.val false [.dat (.int .i64 ((iot L t m).2))]),(17,.var 25 [.tm ((fldA L ⟨#[80,97,105,114]⟩ 0 t).1)]),(18,.val false [.dat (.bool (fldA L ⟨#[80,97,105,114]⟩ 0 t).2)]),(19,.var 53 (infCh (rcd L ⟨#[80,97,105,114]⟩).1)),(20,.val false [.dat (.bool (rcd L ⟨#[80,97,105,114]⟩).2)]),(8,.val false [.env L2]),(23,.var 25 [.tm ((dlt L2 t).1)]),(24,.val false [.dat (.int .i64 ((dlt L2 t).2))]),(25,.var 25 [.tm ((iot L2 t m).1)]),(26,.val false [.dat (.int .i64 ((iot L2 t m).2))]),(27,.var 25 [.tm ((fldA L2 ⟨#[80,97,105,114]⟩ 0 t).1)]),(28,.val false [.dat (.bool (fldA L2 ⟨#[80,97,105,114]⟩ 0 t).2)]),(29,.var 53 (infCh (rcd L2 ⟨#[80,97,105,114]⟩).1)),(30,.val false [.dat (.bool (rcd L2 ⟨#[80,97,105,114]⟩).2)])]) (e:=.normal) (need:=(((decide (L2.length≤1000000) && (nmsOf L2).all (fun n=>decide (n.size≤9223372036854775807))) && true) && true)) (by kernel_rfl) (by rw [f4,f5]; rfl) (u3.par rfl rfl) fun c4 y4 u4=>?_)
 rw [q1,q2,q3,q4] at u4
 have z1:((dlt L t).2 == (dlt L t).2)=true:=by simp
 have z2:((iot L t m).2 == (iot L t m).2)=true:=by simp
 have z3:((fldA L ⟨#[80,97,105,114]⟩ 0 t).2 == (fldA L ⟨#[80,97,105,114]⟩ 0 t).2)=true:=by simp
 have z4:((rcd L ⟨#[80,97,105,114]⟩).2 == (rcd L ⟨#[80,97,105,114]⟩).2)=true:=by simp
 have z5:same (dlt L t).1 (dlt L t).1=true:=same_iff.2 rfl
 have z6:same (iot L t m).1 (iot L t m).1=true:=same_iff.2 rfl
 have z7:same (fldA L ⟨#[80,97,105,114]⟩ 0 t).1 (fldA L ⟨#[80,97,105,114]⟩ 0 t).1=true:=same_iff.2 rfl
 have z8:=eqI_self (rcd L ⟨#[80,97,105,114]⟩).1
 have z9:decide ((rcd L ⟨#[80,97,105,114]⟩).1.rules.length≤1000)=true:=decide_eq_true hrd
 have z10:fitI (rcd L ⟨#[80,97,105,114]⟩).1=true:=by rw [hL]; exact smp_rcdf
 refine wp_seq (piece_ok (p:=rtP [(200,true),(205,true),(210,true),(215,true),(220,true),(225,true),(230,true)]) (hs _) hm (T':=[(6,.val false [.dat (.bool true)])]) (e:=.normal) (need:=((((dlt L t).2 == (dlt L t).2) == true) && ((((iot L t m).2 == (iot L t m).2) == true) && ((((fldA L ⟨#[80,97,105,114]⟩ 0 t).2 == (fldA L ⟨#[80,97,105,114]⟩ 0 t).2) == true) && ((((rcd L ⟨#[80,97,105,114]⟩).2 == (rcd L ⟨#[80,97,105,114]⟩).2) == true) && ((same (dlt L t).1 (dlt L t).1 == true) && ((same (iot L t m).1 (iot L t m).1 == true) && ((same (fldA L ⟨#[80,97,105,114]⟩ 0 t).1 (fldA L ⟨#[80,97,105,114]⟩ 0 t).1 == true) && (((eqI (rcd L ⟨#[80,97,105,114]⟩).1 (rcd L ⟨#[80,97,105,114]⟩).1 && (decide ((rcd L ⟨#[80,97,105,114]⟩).1.rules.length≤1000) && (fitI (rcd L ⟨#[80,97,105,114]⟩).1 && fitI (rcd L ⟨#[80,97,105,114]⟩).1))) && true) && true))))))))) (by kernel_rfl) (by rw [z1,z2,z3,z4,z5,z6,z7,z8,z9,z10]; rfl) (u4.par rfl rfl) fun c5 y5 u5=>?_)
 refine wp_ret ?_
 exact u5.fin rfl hw9
theorem firmI_none {w:World} {x:Inf} {h:IHd} (hin:x.In w.heap.size w h):FirmI (fun _=>False) w x h :=
 ⟨hin.fit,firm_none hin.ty,firm_none hin.va,⟨fun k hk=>by
  obtain ⟨b,off,hd,h1,h2,h3,h4⟩:=hin.rules.place k hk
  exact ⟨b,off,hd,h1,h2,fun a=>a,h3,firm_none h4⟩⟩⟩
theorem infRow_none {w:World} {lo:Option Addr} {l:List Inf} (h:InfRow w.heap.size w lo l):InfFirm (fun _=>False) w lo l:=⟨fun k hk=>by
 obtain ⟨b,off,hd,h1,h2,h3,h4⟩:=h.place k hk
 exact ⟨b,off,hd,h1,h2,fun a=>a,h3,firmI_none h4⟩⟩
theorem law_rules_later (l0:List Inf) (o0:Option Addr) (c0:Nat) (t1:Tm) (e1:Hd) (t2:Tm) (e2:Hd) (W:World) (i0:InfRow W.heap.size W o0 l0) (i1:t1.In W.heap.size W e1) (i2:t2.In W.heap.size W e2) :
 Calls Tryz.prog 7 #[.slice o0 l0.length c0,t1.val e1,t2.val e2] W fun e w'=>e=.returned (.bool true)∧Below W.heap.size W w' :=
 RulesLater_made l0 t1 t2 [.slice o0 l0.length c0,t1.val e1,t2.val e2] W ⟨fun _ a=>a.elim,Nat.zero_le _⟩ ⟨_,_,rfl,⟨[_],⟨[_],[],rfl,⟨o0,c0,rfl,infRow_none i0⟩,rfl⟩,Or.inr ⟨rfl,rfl⟩⟩,_,_,rfl,Typ.vok_tm (firm_none i1),_,_,rfl,Typ.vok_tm (firm_none i2),rfl⟩
end Go.Proofs.YtmngddomnaaedaaGreat
