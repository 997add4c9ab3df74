/-
 A term's spine by shapes: term.Spine,rules.spineOf,the closure that cuts its arguments.
-/
import Derived.Lib.Hide
import Derived.Test.YtmngddomnaaedaaGreatQB30
import Derived.Test.YtmngddomnaaedaaGreatQB15
import Derived.Lib.AppendZeros
open Go.Lib (hid)
set_option maxRecDepth 100000
set_option maxHeartbeats 32000000
namespace Go.Proofs.YtmngddomnaaedaaGreat
open Go.RowKit Go.Shelf Go.Maps Lvl Trm Env
namespace Trm
def spn:Nat→Tm→List Tm→Tm × List Tm
 | n + 1,.mk 4 _ _ _ [f,x],l=>spn n f (x :: l)
 | _,t,l=>(t,l)
theorem spn_stop {g:Tm} (h:g.k ≠ 4) (n:Nat) (l:List Tm):spn n g l=(g,l):=by
 cases n with
 | zero=>rfl
 | succ n =>
   unfold spn
   split
   ·exact absurd rfl h
   ·rfl
theorem spn_appl {g:Tm} (h:g.k ≠ 4):∀ (r:List Tm) (n:Nat) (l:List Tm),r.length≤n→spn n (appl g r.reverse) l=(g,r.reverse ++ l)
 | [],n,l,_=>spn_stop h n l
 | x :: r,n + 1,l,hn=>by
   rw [List.reverse_cons,appl_snoc]
   show spn n (appl g r.reverse) (x :: l)=_
   rw [spn_appl h r n (x :: l) (by simpa using hn)]
   simp
def spM (t:Tm):Tm × List Tm:=if t.may=true then spn 65536 t [] else (zeroT,[])
theorem spM_of {t g:Tm} {m:List Tm} (hm:t.may=true) (h:t=appl g m) (hg:g.k ≠ 4) (hl:m.length≤65536):spM t=(g,m):=by
 have:=spn_appl hg m.reverse 65536 [] (by simpa using hl)
 rw [List.reverse_reverse,← h,List.append_nil] at this
 rw [spM,if_pos hm,this]
end Trm
namespace Typ
theorem slice_tms {P:Nat→Prop} {w:World} {l:List Tm} {lo:Option Addr} {lc x y:Nat} (h1:x≤y) (h2:y≤l.length) (h3:l.length≤lc) (h:RowP P w lo l) :
 ∃ (so:Option Addr) (sc:Nat),(∀ W:World,(Instr.slice 23 (.slice lo l.length lc) (some (.int .i64 (x:Int))) (some (.int .i64 (y:Int))) none).run Tryz.prog W=.ok (.slice so (y - x) sc) W)∧RowP P w so ((l.take y).drop x)∧y - x≤sc:=by
 refine ⟨if lc=x then lo else lo.map (·.add (x * 5)),lc - x,fun W=>?_,fun k hk=>?_,by omega⟩
 ·have he:Tryz.prog.elem 23=25:=by simp [Program.elem,Tryz.underlying23]
  have hz:(Go.sizeOf 25).run Tryz.prog W=.ok 5 W:=by kernel_rfl
  rw [run_slice_lh W 23 _ _ _ (by rw [he]; exact Tryz.underlying23) .i64 .i64 _ _ (by omega) (by omega) (by omega),he,hz]
  simp [Result.andThen,sliced]
 ·rw [List.length_drop,List.length_take] at hk
  obtain ⟨b,off,a1,a2,a3,hd,a4,a5⟩:=h (x + k) (by omega)
  have e:((l.take y).drop x)[k]'(by rw [List.length_drop,List.length_take]; omega)=l[x + k]'(by omega):=by
   rw [List.getElem_drop,List.getElem_take]
  refine ⟨b,off + x * 5,?_,a2,a3,hd,?_,?_⟩
  ·rw [if_neg (by omega),a1]
   simp [Addr.add]
  ·rw [e,show off + x * 5 + k * 5=off + (x + k) * 5 by omega]; exact a4
  ·rw [e]; exact a5
end Typ
open Typ in
theorem cut_ok [Typ.Xt]:CutC:=by
 intro P l v x y w hP hc hx hxy hy b hv
 obtain ⟨b2,lo,lc,rfl,h2,h3,h4,h5,h6⟩:=hc
 cases hv
 obtain ⟨so,sc,h7,h8,h9⟩:=slice_tms (x:=x.toNat) (y:=y.toNat) (by omega) hy h6 h5
 rw [show ((x.toNat:Nat):Int)=x by omega,show ((y.toNat:Nat):Int)=y by omega] at h7
 have HL:=hid h8
 have hcell:w.cell? ⟨b,0,none⟩=some (.slice lo l.length lc):=by simp [World.cell?,h4]
 have hlen:((l.take y.toNat).drop x.toNat).length=y.toNat - x.toNat:=by rw [List.length_drop,List.length_take]; omega
 refine calls_of_wp Tryz.func80 rfl ?_
 clear h4 h5 h6 h8 h9 hx hxy hy h2 h3
 go_wp2_with fail
 exact bodyPost_ret (v:=.slice so (y.toNat - x.toNat) sc) (by simp [results,Tryz.results80,go_sem]) rfl ⟨_,rfl,Below.refl _ _,[_],⟨[_],[],rfl,⟨so,sc,by rw [hlen],HL.out⟩,rfl⟩,Or.inr ⟨rfl,rfl⟩⟩
theorem nmf_ok [Typ.Xt]:Typ.NmfC:=by
 intro P s r x w b hP hb hc
 unfold Rl.vals
 refine calls_of_wp Tryz.func82 rfl ?_
 go_wp2_with fail
 exact bodyPost_ret (v:=.bool (r.ctor.toList == s.toList)) (by simp [results,Tryz.results82,go_sem]) rfl ⟨rfl,below_one _ _⟩
namespace Typ
def gSpine:List (Bool × List Ch)→Option (Sl × Bool)
 | [(true,l)]=>match toTm l with
   | some t=>some (.tup [(true,[.tm (spM t).1]),(false,[.tmsC (spM t).2])],true)
   | none=>none
 | _=>none
theorem spine_may [Typ.Xt] (P:Nat→Prop) (t:Tm) (h:Hd) (w:World) (hP:Typ.Lt P w) (f:FirmS P w t h):Calls Tryz.prog 79 #[t.val h] w (MadeV P w (.tup [(true,[.tm (spM t).1]),(false,[.tmsC (spM t).2])])):=by
 cases hm:t.may
 ·have e:spM t=(zeroT,[]):=by simp [spM,hm]
  rw [e]
  have h1:=Typ.fn_ok (p:=⟨sp10,27,[(7,true)],[],false,[]⟩) (par_ok sp10_ok) Tryz.func79 rfl rfl (rs:=[.cell 2 25,.tmp 3]) rfl (by kernel_rfl) (ss:=[(true,[.tm t])]) (r:=.tup [(true,[.tm zeroT]),(false,[nilC])]) (by simp) ((show _=some (_,(((!t.may) == true) && true)) by kernel_rfl).trans (by rw [hm]; rfl)) P w [t.val h] hP ⟨_,_,rfl,vok_tm f,rfl⟩
  refine h1.mono fun e w' k=>?_
  obtain ⟨v,k1,k2,vs,k3,u1,y1,rfl,k4,u2,y2,rfl,k5,k6⟩:=k
  refine ⟨v,k1,k2,_,k3,u1,_,rfl,k4,u2,_,rfl,?_,k6⟩
  cases arg_dat k5
  exact ⟨_,⟨[_],[],rfl,⟨none,0,rfl,fun k hk=>by simp at hk,by simp⟩,rfl⟩,Or.inr ⟨rfl,rfl⟩⟩
 ·refine (SpineF_yes t h w f.here hm).mono ?_
  rintro e w' ⟨g,hg,m,ao,cap,rfl,h1,h2,h3,h4,h5,h6⟩
  rw [spM_of hm h1 h2 h3]
  obtain ⟨f1,f2⟩:=h6 P hP f
  exact ⟨_,rfl,h5,[_,_],rfl,_,_,rfl,vok_tm f1,_,_,rfl,⟨_,⟨[_],[],rfl,⟨ao,cap,rfl,f2,h4⟩,rfl⟩,Or.inr ⟨rfl,rfl⟩⟩,rfl⟩
def sp11:Spec:=spCons 79 gSpine sp10
theorem sp11_ok [Typ.Xt]:SpecOk sp11:=spCons_ok sp10_ok (by intro args w; kernel_rfl) (by
 intro ss r h P w vs hP hv
 unfold gSpine at h
 split at h
 ·split at h
  ·rename_i t ht
   simp only [Option.some.injEq,Prod.mk.injEq,and_true] at h
   subst h
   obtain ⟨v,rfl,h2⟩:=args1 hv
   obtain ⟨x,rfl,f⟩:=arg_tm ht h2
   exact spine_may P t x w hP f
  ·cases h
 ·cases h)
def spSl (t:Tm):Sl:=.val true [.tm (spM t).1,.dat (.int .i64 (spM t).2.length),.cut (spM t).2]
def gSpOf:List (Bool × List Ch)→Option (Sl × Bool)
 | [(true,l)]=>match toTm l with
   | some t=>some (spSl t,true)
   | none=>none
 | _=>none
theorem spineOf_made [Typ.Xt] (P:Nat→Prop) (t:Tm) (h:Hd) (w:World) (hP:Typ.Lt P w) (f:FirmS P w t h):Calls Tryz.prog 46 #[t.val h] w (MadeV P w (spSl t)) :=
 Typ.fn_ok (p:=⟨sp11,15,[],[],false,[]⟩) (par_ok sp11_ok) Tryz.func46 rfl rfl (rs:=[.cell 2 91]) rfl (by kernel_rfl) (ss:=[(true,[.tm t])]) (r:=spSl t) (by simp) (by kernel_rfl) P w [t.val h] hP ⟨_,_,rfl,vok_tm f,rfl⟩
def sp12:Spec:=spCons 46 gSpOf sp11
theorem sp12_ok [Typ.Xt]:SpecOk sp12:=spCons_ok sp11_ok (by intro args w; kernel_rfl) (by
 intro ss r h P w vs hP hv
 unfold gSpOf at h
 split at h
 ·split at h
  ·rename_i t ht
   simp only [Option.some.injEq,Prod.mk.injEq,and_true] at h
   subst h
   obtain ⟨v,rfl,h2⟩:=args1 hv
   obtain ⟨x,rfl,f⟩:=arg_tm ht h2
   exact spineOf_made P t x w hP f
  ·cases h
 ·cases h)
end Typ
end Go.Proofs.YtmngddomnaaedaaGreat
namespace Go.Proofs.YtmngddomnaaedaaGreat
open Go.RowKit Go.Shelf Go.Maps Lvl Trm Env
open Typ in
theorem GrowT_any [Typ.Xt] (P:Nat→Prop) (n:Nat) (hn:n≤1000000) (w:World):Calls Tryz.prog 137 #[.slice none 0 0,.int .i64 n] w (MadeV P w (.own .tms [])):=by
 by_cases h0:n=0
 ·subst h0
  refine calls_of_wp Tryz.func137 rfl ?_
  go_wp2_with fail
  exact bodyPost_ret (v:=.slice none 0 0) (by simp [results,Tryz.results137,go_sem]) rfl ⟨_,rfl,Below.refl _ _,Or.inl ⟨rfl,rfl⟩⟩
 ·obtain ⟨i0,hi,hz0,hz1,hz2⟩:=info_parts infoT
  have hrun:=Lib.run_append_nil_zeros (P:=Tryz.prog) w 23 3 23 25 i0 _ .i64 .i64 Tryz.underlying23 Tryz.underlying3 hi hz0 n (by omega) (by omega) (by omega) (by rw [hz2]; omega)
  obtain ⟨cap,hcap⟩:∃ cap,cap=grownCap w n 0 25:=⟨_,rfl⟩
  obtain ⟨W1,hW1⟩:∃ W1,W1=w.drew.alloc (.cells (Builtin.zeroCells (Value.agg #[.int .u8 0,.int .i64 0,.string ⟨#[]⟩,.slice none 0 0,.slice none 0 0]).cells n ++ Builtin.zeroCells (Value.agg #[.int .u8 0,.int .i64 0,.string ⟨#[]⟩,.slice none 0 0,.slice none 0 0]).cells (grownCap w n 0 25 - n)) 25):=⟨_,rfl⟩
  have hrun2:(Builtin.append_ #[23,3] 23 #[.slice none 0 0,.int .i64 n]).run Tryz.prog w=.ok (.slice (some ⟨w.heap.size,0,none⟩) n cap) W1:=by rw [hrun,hcap,hW1]
  have HR:=hid hrun2
  have HB:=hid (show Below w.heap.size w W1 from hW1 ▸ (Below.refl _ _).drew.alloc (Nat.le_refl _) _)
  have hge:n≤cap:=hcap ▸ grownCap_ge w n 0 _
  have HO:Hid (OwnAt (fun q=>P q∨q=w.heap.size) W1 .tms [] (.slice (some ⟨w.heap.size,0,none⟩) 0 cap) w.heap.size):=hid ⟨cap,_,[],rfl,hW1 ▸ World.alloc_heap_new w.drew _,Nat.zero_le _,hcap ▸ grownCap_le_maxLen w n 0 _ (by unfold maxLen; omega),(by
   rw [Array.size_append,size_zeroCells,size_zeroCells,← hcap]
   show n * 5 + (cap - n) * 5=cap * 5
   omega),by simp,rfl⟩
  have hgi:((0:Int)≤(cap:Int)):=by omega
  have hw:IntKind.i64.wrap (n:Int)=n:=by rw [IntWalk.i64_in _ (by omega)]
  have hl1:((n:Int) < 0)=False:=eq_false (by omega)
  have hl2:((n:Int) > 0)=True:=eq_true (by omega)
  have hl3:((0:Int) < n)=True:=eq_true (by omega)
  clear hrun hrun2 hW1 hcap hge hi hz0 hz1 hz2 hn h0
  generalize hN:(n:Int)=N at HR hw hl1 hl2 hl3 ⊢
  clear hN
  go_enter Tryz.func137,Tryz.ntmps137
  go_wp2_with (at_builtin; refine Lib.wpList_append_run _ rfl _ _ _ _ rfl _ _ rfl rfl _ _ HR.out ?_)
  go_ret
  exact ⟨_,rfl,HB.out,Or.inr ⟨_,Nat.le_refl _,HO.out⟩⟩
namespace Typ
def gGrow:List (Bool × List Ch)→Option (Sl × Bool)
 | [(false,[.dat (.slice none 0 0)]),(false,[.dat (.int .i64 n)])]=>some (.own .tms [],decide (0≤n) && decide (n≤1000000))
 | _=>none
def sp13:Spec:=spCons 137 gGrow sp12
theorem sp13_ok [Typ.Xt]:SpecOk sp13:=spCons_ok sp12_ok (by intro args w; kernel_rfl) (by
 intro ss r h P w vs hP hv
 unfold gGrow at h
 split at h
 ·rename_i n
  simp only [Option.some.injEq,Prod.mk.injEq,Bool.and_eq_true,decide_eq_true_eq] at h
  obtain ⟨rfl,h0,h1⟩:=h
  obtain ⟨v,u,rfl,h2,h3⟩:=args2 hv
  cases arg_dat h2
  cases arg_dat h3
  have:=GrowT_any P n.toNat (by omega) w
  rwa [show ((n.toNat:Nat):Int)=n by omega] at this
 ·cases h)
def elT (t:Tm):List Ch:=[.tm t]
def cT1 (l:List (List Tm)) (c z:Int):Tbl Sl:=[(0,.val false [.tmss l]),(3,.val false [.dat (.int .i64 c)]),(9,.val false [.tmss l]),(10,.val false [.dat (.int .i64 l.length)]),(11,.val false [.dat (.int .i64 z)])]
def cT2 (l:List (List Tm)) (els:List (List Ch)) (z:Int):Tbl Sl:=[(6,.own .tms els),(25,.val false [.tmss l]),(26,.val false [.dat (.int .i64 l.length)]),(27,.val false [.dat (.int .i64 z)])]
def cP (ov:List (Nat × Bool)):Par:=⟨sp13,36,ov,[],false,[2,6,24,31,33,35]⟩
def sumL (l:List (List Tm)):Nat:=l.flatten.length
theorem sumL_take {l:List (List Tm)} {g:Nat} (h:g < l.length):sumL (l.take (g + 1))=sumL (l.take g) + (l.getD g []).length:=by
 rw [getD_of h]
 unfold sumL
 rw [List.take_succ_eq_append_getElem h,List.flatten_append,List.length_append]
 simp
theorem sumL_le {l:List (List Tm)} (g:Nat):sumL (l.take g)≤sumL l:=by
 unfold sumL
 conv=>rhs; rw [← List.take_append_drop g l,List.flatten_append,List.length_append]
 omega
theorem flat_take {l:List (List Tm)} {g:Nat} (h:g < l.length):(l.take (g + 1)).flatten.map elT=(l.take g).flatten.map elT ++ (l.getD g []).map elT:=by
 rw [getD_of h,List.take_succ_eq_append_getElem h,List.flatten_append,List.map_append]
 simp
end Typ
open Typ in
theorem Concat_own [Typ.Xt] (P:Nat→Prop) (l:List (List Tm)) (v:Value) (w:World) (hP:Typ.Lt P w) (hl:VOk P w false [.tmss l] v) (hn:sumL l≤100000) (hn2:l.length≤100000) :
 Calls Tryz.prog 89 #[v] w (MadeV P w (.own .tms (l.flatten.map elT))):=by
 have hm:Tryz.prog.follows .mixedOrders=true:=by kernel_rfl
 have hs:∀ ov,ParOk (cP ov):=fun _=>par_ok sp13_ok
 refine calls_of_wp Tryz.func89 rfl ?_
 have st:=start_ok (p:=cP []) (P:=P) (w:=w) (ss:=[(false,[.tmss l])]) (vs:=[v]) hP ⟨_,_,rfl,hl,rfl⟩ (by simp [cP])
 refine wp_seq (piece_ok (p:=cP []) (hs _) hm (T':=[(0,.val false [.tmss l])]) (e:=.normal) (need:=true) (by kernel_rfl) rfl st fun a1 w1 s1=>?_)
 refine wp_seq (piece_ok (p:=cP []) (hs _) hm (T':=[(0,.val false [.tmss l]),(3,.val false [.dat (.int .i64 0)])]) (e:=.normal) (need:=true) (by kernel_rfl) rfl s1 fun a2 w2 s2=>?_)
 refine wp_seq ?_
 refine wp_seq (piece_ok (p:=cP []) (hs _) hm (T':=cT1 l 0 0) (e:=.normal) (need:=true) (by kernel_rfl) rfl s2 fun a3 w3 s3=>?_)
 refine wp_block ?_
 refine Typ.wp_loop_ghost (fun (g:Nat) a w'=>St P w (cP []) (cT1 l (sumL (l.take g)) g) a w'∧g≤l.length) (fun g=>l.length - g) (g0:=0) ⟨by simpa [sumL] using s3,by omega⟩ ?_
 rintro g a w' ⟨s,hg⟩
 by_cases hlt:g < l.length
 ·have hw:IntKind.i64.wrap ((g:Int) + 1)=((g + 1:Nat):Int):=by rw [IntWalk.i64_in _ (by omega)]; simp
  have hq:=sumL_take hlt
  have hq2:=sumL_le (l:=l) (g + 1)
  have hw2:IntKind.i64.wrap ((sumL (l.take g):Int) + ((l.getD g []).length:Int))=(sumL (l.take (g + 1)):Int):=by rw [IntWalk.i64_in _ (by omega),hq]; simp
  refine piece_ok (p:=cP [(12,true),(20,false)]) (hs _) hm (T':=cT1 l (IntKind.i64.wrap ((sumL (l.take g):Int) + ((l.getD g []).length:Int))) (IntKind.i64.wrap ((g:Int) + 1))) (e:=.normal) (need:=(decide ((g:Int) < l.length) == true) && (((decide ((0:Int)≤g) && decide (g < l.length)) && true) && ((decide (IntKind.i64.wrap ((sumL (l.take g):Int) + ((l.getD g []).length:Int)) < 0) == false) && true))) (by kernel_rfl) (by rw [hw2]; simp [hlt]; try omega) (s.par rfl rfl) fun a4 w4 s4=>?_
  rw [hw,hw2] at s4
  exact ⟨g + 1,⟨s4.par rfl rfl,by omega⟩,by omega⟩
 ·have hgl:l.take g=l:=List.take_of_length_le (by omega)
  rw [hgl] at s
  refine piece_ok (p:=cP [(12,false)]) (hs _) hm (T':=[(0,.val false [.tmss l]),(3,.val false [.dat (.int .i64 (sumL l))])]) (e:=.exit 0) (need:=(decide ((g:Int) < l.length) == false) && true) (by kernel_rfl) (by simpa using by omega) (s.par rfl rfl) fun a4 w4 s4=>?_
  refine wp_seq (piece_ok (p:=cP []) (hs _) hm (T':=[(0,.val false [.tmss l]),(6,.own .tms [])]) (e:=.normal) (need:=((decide ((0:Int)≤sumL l) && decide ((sumL l:Int)≤1000000)) && true)) (by kernel_rfl) (by simpa using by omega) (s4.par rfl rfl) fun a5 w5 s5=>?_)
  refine wp_seq ?_
  refine wp_seq (piece_ok (p:=cP []) (hs _) hm (T':=cT2 l [] 0) (e:=.normal) (need:=true) (by kernel_rfl) rfl s5 fun a6 w6 s6=>?_)
  refine wp_block ?_
  refine Typ.wp_loop_ghost (fun (g:Nat) a w'=>St P w (cP []) (cT2 l ((l.take g).flatten.map elT) g) a w'∧g≤l.length) (fun g=>l.length - g) (g0:=0) ⟨s6,by omega⟩ ?_
  rintro g2 a7 w7 ⟨s7,hg2⟩
  by_cases hlt2:g2 < l.length
  ·have hw:IntKind.i64.wrap ((g2:Int) + 1)=((g2 + 1:Nat):Int):=by rw [IntWalk.i64_in _ (by omega)]; simp
   have hq2:=sumL_le (l:=l) (g2 + 1)
   have hln:((l.take g2).flatten.map elT ++ (l.getD g2 []).map elT).length≤1000000:=by
    rw [← flat_take hlt2,List.length_map]
    show sumL (l.take (g2 + 1))≤1000000
    omega
   refine piece_ok (p:=cP [(28,true)]) (hs _) hm (T':=cT2 l ((l.take g2).flatten.map elT ++ (l.getD g2 []).map elT) (IntKind.i64.wrap ((g2:Int) + 1))) (e:=.normal) (need:=(decide ((g2:Int) < l.length) == true) && (((decide ((0:Int)≤g2) && decide (g2 < l.length)) && true) && (decide (((l.take g2).flatten.map elT ++ (l.getD g2 []).map elT).length≤1000000) && true))) (by kernel_rfl) (by simp only [hln]; simp [hlt2]) (s7.par rfl rfl) fun a8 w8 s8=>?_
   rw [hw,← flat_take hlt2] at s8
   exact ⟨g2 + 1,⟨s8.par rfl rfl,by omega⟩,by omega⟩
  ·have hgl2:l.take g2=l:=List.take_of_length_le (by omega)
   rw [hgl2] at s7
   refine piece_ok (p:=cP [(28,false)]) (hs _) hm (T':=[(6,.own .tms (l.flatten.map elT))]) (e:=.exit 2) (need:=(decide ((g2:Int) < l.length) == false) && true) (by kernel_rfl) (by simpa using by omega) (s7.par rfl rfl) fun a8 w8 s8=>?_
   exact tail_ok (p:=cP []) (hs _) hm (rs:=[.tmp 2]) (r:=.own .tms (l.flatten.map elT)) (need:=true) rfl (by kernel_rfl) rfl (s8.par rfl rfl)
end Go.Proofs.YtmngddomnaaedaaGreat
namespace Go.Proofs.YtmngddomnaaedaaGreat
open Go.RowKit Go.Shelf Go.Maps Lvl Trm Env
namespace Typ
theorem papp_long {f:Tm} {l:List Tm} (h:4096≤l.length):papp f l=zeroT:=by
 unfold papp
 rw [if_neg (fun a=>by have:=(appl_facts a).1; omega)]
 rfl
open Typ in
theorem PApply_all [Typ.Xt] (P:Nat→Prop) (f:Tm) (hf:Hd) (l:List Tm) (lo:Option Addr) (lc:Nat) (w:World) (hP:Typ.Lt P w) (hin:FirmS P w f hf) (hl:RowP P w lo l) :
 Calls Tryz.prog 88 #[f.val hf,.slice lo l.length lc] w (MadeV P w (.val true [.tm (papp f l)])):=by
 by_cases h:l.length < 4096
 ·exact PApply_firm P f hf l lo lc w hP hin hl h
 ·rw [papp_long (by omega)]
  exact Typ.fn_ok (p:=apP [(9,true)]) (par_ok sp10_ok) Tryz.func88 rfl rfl (rs:=[.cell 4 25]) rfl (by kernel_rfl) (ss:=[(true,[.tm f]),(false,[.tms l])]) (r:=.val true [.tm zeroT]) (by simp [apP]) ((show _=some (_,((decide ((l.length:Int) ≥ 4096) == true) && true)) by kernel_rfl).trans (by rw [show decide ((l.length:Int) ≥ 4096)=true from decide_eq_true (by omega)]; rfl)) P w _ hP ⟨_,_,rfl,vok_tm hin,_,[],rfl,⟨_,⟨[_],[],rfl,⟨lo,lc,rfl,hl⟩,rfl⟩,Or.inr ⟨rfl,rfl⟩⟩,rfl⟩
def gPA:List (Bool × List Ch)→Option (Sl × Bool)
 | [(true,a),(false,[c])]=>match toTm a,asTms c with
   | some f,some l=>some (.val true [.tm (papp f l)],true)
   | _,_=>none
 | _=>none
def gCat:List (Bool × List Ch)→Option (Sl × Bool)
 | [(false,[.tmss l])]=>some (.val false [.tmsC l.flatten],decide (sumL l≤100000) && decide (l.length≤100000))
 | _=>none
theorem mapM_elT:∀ m:List Tm,(m.map elT).mapM toTm=some m
 | []=>rfl
 | t :: m=>by
   rw [List.map_cons,List.mapM_cons,mapM_elT m]
   rfl
theorem frz_elT (m:List Tm):frz .tms (m.map elT)=some (.tmsC m):=by
 unfold frz
 rw [mapM_elT]
def sp14:Spec:=spCons 88 gPA <| spCons 89 gCat sp13
theorem sp14_ok [Typ.Xt]:SpecOk sp14:=spCons_ok (spCons_ok sp13_ok (by intro args w; kernel_rfl) (by
 intro ss r h P w vs hP hv
 unfold gCat at h
 split at h
 ·rename_i l
  simp only [Option.some.injEq,Prod.mk.injEq,Bool.and_eq_true,decide_eq_true_eq] at h
  obtain ⟨rfl,h0,h1⟩:=h
  obtain ⟨v,rfl,h2⟩:=args1 hv
  exact (Concat_own P l v w hP h2 h0 h1).mono fun _ _ k=>k.freeze hP (frz_elT _)
 ·cases h)) (by intro args w; kernel_rfl) (by
 intro ss r h P w vs hP hv
 unfold gPA at h
 split at h
 ·split at h
  ·rename_i f l hx hy
   simp only [Option.some.injEq,Prod.mk.injEq,and_true] at h
   subst h
   obtain ⟨v,u,rfl,h1,h2⟩:=args2 hv
   obtain ⟨a,rfl,f1⟩:=arg_tm hx h1
   obtain ⟨lo,lc,e,g⟩:=asTms_ok hy (arg_one h2)
   cases e
   exact PApply_all P f a l lo lc w hP f1 g
  ·cases h
 ·cases h)
def apA (f:Tm) (l:List Tm):Tm × Int:=if (papp f l).k == 0 then (zeroT,4) else (papp f l,0)
def gApd:List (Bool × List Ch)→Option (Sl × Bool)
 | [(true,a),(false,[.tmss l])]=>match toTm a with
   | some f=>some (.tup [(true,[.tm (apA f l.flatten).1]),(false,[.dat (.int .i64 (apA f l.flatten).2)])],decide (sumL l≤100000) && decide (l.length≤100000))
   | _=>none
 | _=>none
theorem applied_made [Typ.Xt] (P:Nat→Prop) (f:Tm) (l:List (List Tm)) (vs:List Value) (w:World) (hP:Typ.Lt P w) (hv:VArgs P w [(true,[.tm f]),(false,[.tmss l])] vs) (h1:sumL l≤100000) (h2:l.length≤100000) :
 Calls Tryz.prog 51 vs.toArray w (MadeV P w (.tup [(true,[.tm (apA f l.flatten).1]),(false,[.dat (.int .i64 (apA f l.flatten).2)])])):=by
 unfold apA
 cases hk:(papp f l.flatten).k == 0
 ·exact Typ.fn_ok (p:=⟨sp14,16,[(13,false)],[],false,[]⟩) (par_ok sp14_ok) Tryz.func51 rfl rfl (rs:=[.cell 4 25,.tmp 5]) rfl (by kernel_rfl) (ss:=[(true,[.tm f]),(false,[.tmss l])]) (r:=.tup [(true,[.tm (papp f l.flatten)]),(false,[.dat (.int .i64 0)])]) (by simp) ((show _=some (_,(((decide (sumL l≤100000) && decide (l.length≤100000)) && true) && ((((papp f l.flatten).k == 0) == false) && true))) by kernel_rfl).trans (by rw [hk,decide_eq_true h1,decide_eq_true h2]; rfl)) P w vs hP hv
 ·exact Typ.fn_ok (p:=⟨sp14,16,[(13,true)],[],false,[]⟩) (par_ok sp14_ok) Tryz.func51 rfl rfl (rs:=[.cell 4 25,.tmp 5]) rfl (by kernel_rfl) (ss:=[(true,[.tm f]),(false,[.tmss l])]) (r:=.tup [(true,[.tm zeroT]),(false,[.dat (.int .i64 4)])]) (by simp) ((show _=some (_,(((decide (sumL l≤100000) && decide (l.length≤100000)) && true) && ((((papp f l.flatten).k == 0) == true) && true))) by kernel_rfl).trans (by rw [hk,decide_eq_true h1,decide_eq_true h2]; rfl)) P w vs hP hv
end Typ
end Go.Proofs.YtmngddomnaaedaaGreat
