/-
 env.owned: an info with rules of its own.
-/
import Derived.Lib.Hide
import Derived.Test.YtiekbhlnnmnklaaGreatQB23
import Derived.Laws.CopyOwn
import Derived.Test.YtiekbhlnnmnklaaGreatQB22
open Go.Lib (hid)
set_option maxRecDepth 100000
set_option maxHeartbeats 32000000
namespace Go.Proofs.YtiekbhlnnmnklaaGreat
open Go.RowKit Go.Shelf Go.Maps Lvl Trm Env
namespace Env
theorem infoRule : (Tryz.prog.info? 80).map (fun i => (i.zero,i.size,i.bytes)) = some (some (.agg #[.string ⟨#[]⟩,.int .i64 0,.int .u8 0,.int .i64 0,.string ⟨#[]⟩,.slice none 0 0,.slice none 0 0]),7,104) := by kernel_rfl
def flatR (ps : List (Rl × Hd)) : List Value := ps.flatMap fun p => p.1.vals p.2
theorem flatR_len : ∀ ps : List (Rl × Hd),(flatR ps).length = ps.length * 7
 | [] => rfl
 | p :: r => by
   have h1 := flatR_len r
   unfold flatR at h1 ⊢
   rw [List.flatMap_cons,List.length_append,h1,Rl.len,List.length_cons]
   omega
theorem flatR_at : ∀ (ps : List (Rl × Hd)) (i : Nat) (hi : i < ps.length) (j : Nat),j < 7 → (flatR ps)[i * 7 + j]? = (ps[i].1.vals ps[i].2)[j]?
 | p :: r,0,_,j,hj => by
   unfold flatR
   rw [List.flatMap_cons,List.getElem?_append_left (by rw [Rl.len]; omega)]
   simp
 | p :: r,i + 1,hi,j,hj => by
   have h1 := flatR_at r i (by simpa using hi) j hj
   unfold flatR at h1 ⊢
   rw [List.flatMap_cons,List.getElem?_append_right (by rw [Rl.len]; omega),Rl.len,show (i + 1) * 7 + j - 7 = i * 7 + j by omega,h1]
   simp
theorem flatR_one (ps : List (Rl × Hd)) : ∀ u ∈ flatR ps,u.oneCell' = true := by
 intro u hu
 unfold flatR at hu
 rw [List.mem_flatMap] at hu
 obtain ⟨p,_,hp⟩ := hu
 simp [Rl.vals,five] at hp
 rcases hp with rfl | rfl | rfl | rfl | rfl | rfl | rfl <;> rfl
theorem FirmR.heads {P : Nat → Prop} {w : World} {ro : Option Addr} {rs : List Rl} (h : FirmR P w ro rs) : ∃ ps : List (Rl × Hd),ps.map (·.1) = rs ∧ ∀ k (hk : k < ps.length),∃ b off,ro = some ⟨b,off,none⟩ ∧ b < w.heap.size ∧ w.rangeAt b (off + k * 7) (ps[k].1.vals ps[k].2) ∧ FirmS P w ps[k].1.body ps[k].2 := by
 have hx : ∀ k : Fin rs.length,∃ hd,∃ b off,ro = some ⟨b,off,none⟩ ∧ b < w.heap.size ∧ w.rangeAt b (off + k * 7) (rs[k].vals hd) ∧ FirmS P w rs[k].body hd := fun k => by
  obtain ⟨b,off,hd,h1,h2,_,h4,h5⟩ := h.place k k.2
  exact ⟨hd,b,off,h1,h2,h4,h5⟩
 refine ⟨List.ofFn fun k : Fin rs.length => (rs[k],(hx k).choose),?_,fun k hk => ?_⟩
 ·refine List.ext_getElem (by simp) fun i h1 h2 => ?_
  simp
 ·have hk2 : k < rs.length := by simpa using hk
  simp only [List.getElem_ofFn]
  exact (hx ⟨k,hk2⟩).choose_spec
def ClPost (P : Nat → Prop) (rs : List Rl) (w : World) (e : Ending) (w' : World) : Prop := ∃ ro rc,e = .returned (.slice ro rs.length rc) ∧ FirmR P w' ro rs ∧ Below w.heap.size w w'
theorem firmR_row {P : Nat → Prop} {w' : World} {v : Value} {ps : List (Rl × Hd)} {base : Nat} (hown : w'.ownsRow base 80 7 v ps.length (flatR ps)) (hb : ∀ q,P q → q < base) (hf : ∀ k (hk : k < ps.length),FirmS P w' ps[k].1.body ps[k].2) : ∃ ro rc,v = .slice ro ps.length rc ∧ FirmR P w' ro (ps.map (·.1)) := by
 rcases hown.2 with ⟨hv,h0⟩ | ⟨g,cap,cur,rfl,hbg,hg,rest⟩
 ·refine ⟨none,0,by rw [hv,h0],⟨fun k hk => ?_⟩⟩
  simp at hk; omega
 ·refine ⟨_,cap,rfl,⟨fun k hk => ?_⟩⟩
  have hk2 : k < ps.length := by simpa using hk
  have hgl : g < w'.heap.size := (Array.getElem?_eq_some_iff.1 hg).1
  refine ⟨g,0,ps[k].2,rfl,hgl,fun hp => by have := hb g hp; omega,fun j u hu => ?_,?_⟩
  ·have hj : j < 7 := by have := (List.getElem?_eq_some_iff.1 hu).1; rw [Rl.len] at this; exact this
   have h1 := hown.cells (g := g) rfl (k * 7 + j) u (by rw [flatR_at ps k hk2 j hj]; simpa using hu)
   rw [Addr.add_mid] at h1
   rw [show 0 + k * 7 + j = 0 + (k * 7 + j) by omega]
   exact h1
  ·simpa using hf k hk2
end Env
theorem CloneR_any {P : Nat → Prop} {w : World} (rs : List Rl) (ro : Option Addr) (rc : Nat) (hf : FirmR P w ro rs) (hP : ∀ q,P q → q < w.heap.size) (hn : rs.length ≤ 1000) : Calls Tryz.prog 112 #[.slice ro rs.length rc] w (ClPost P rs w) := by
 have q22 : ∀ (w : World) (a : Option Addr) (n c n' c' : Nat),(binOp .eql 44 (.slice a n c) (.slice none n' c')).run Tryz.prog w = .ok (.bool a.isNone) w := fun w a n c n' c' => Lib.run_eql_slice_nil w _ _ a n c n' c' Tryz.underlying44
 cases ro with
 | none =>
   have hr0 : rs.length = 0 := by
    rcases Nat.eq_zero_or_pos rs.length with h | h
    ·exact h
    ·obtain ⟨_,_,_,h1,_⟩ := hf.place 0 h
     cases h1
   have HPO : Hid (ClPost P rs w (.returned (.slice none 0 0)) w) := hid ⟨none,0,by rw [hr0],hf,Below.refl _ _⟩
   clear hf hP hn hr0
   go_enter Tryz.func112,Tryz.ntmps112
   go_wp2_with fail
   go_ret
   exact HPO.out
 | some ad =>
   obtain ⟨i0,hi,hz0,hz1,hz2⟩ := info_parts infoRule
   obtain ⟨ps,hps,hat⟩ := hf.heads
   have hlen : rs.length = ps.length := by rw [← hps,List.length_map]
   have HC : Hid (∀ j u,(flatR ps)[j]? = some u → w.cell? (ad.add j) = some u) := hid (fun j u hj => by
    have hjl : j < ps.length * 7 := by rw [← flatR_len]; exact (List.getElem?_eq_some_iff.1 hj).1
    have hk : j / 7 < ps.length := by omega
    have hq : j % 7 < 7 := Nat.mod_lt _ (by omega)
    have e := flatR_at ps (j / 7) hk (j % 7) hq
    rw [show j / 7 * 7 + j % 7 = j by omega,hj] at e
    obtain ⟨b,off,had,_,hrg,_⟩ := hat (j / 7) hk
    injection had with had
    subst had
    rw [Addr.add_mid]
    have := hrg (j % 7) u e.symm
    rwa [show off + j / 7 * 7 + j % 7 = off + j by omega] at this)
   have HFS := hid (fun k (hk : k < ps.length) => (hat k hk).choose_spec.choose_spec.2.2.2)
   have HPS := hid hps
   have HPW := hid hP
   rw [hlen]
   have hn2 : ps.length ≤ 1000 := by omega
   have HN := hid hn2
   clear hf hP hn hat hps hlen hn2
   go_enter Tryz.func112,Tryz.ntmps112
   go_wp2_with (at_builtin; refine wpList_append_own _ rfl _ _ 44 rfl w.heap.size 80 i0 _ 7 104 Tryz.underlying44 hi hz0 hz1 hz2 rfl (by decide) _ _ _ rfl (World.ownsRow_made w #[] 0 (Nat.le_refl _) (Nat.zero_le _) (by simp)) ad ps.length rc (flatR ps) rfl ?c1 ?c2 ?c3 ?c4 ?c5 ?c6 ?_)
   case c1 => rw [flatR_len]
   case c2 =>
    intro j u hj
    exact Lib.cell?_alloc_some _ (HC.out j u hj)
   case c3 => exact flatR_one ps
   case c4 => unfold maxLen; have := HN.out; omega
   case c5 => have := HN.out; omega
   case c6 => simp
   intro v' w1 hown hgrow hnil
   have ho0 : (w.alloc (.cells #[] 80)).ownsRow w.heap.size 80 7 (.slice (some ⟨w.heap.size,0,none⟩) 0 0) 0 [] := World.ownsRow_made w #[] 0 (Nat.le_refl _) (Nat.zero_le _) (by simp)
   have hbel := (below_one w (.cells #[] 80)).trans (below_own ho0 hgrow (by simp))
   obtain ⟨ro',rc',hv,hfr⟩ := firmR_row hown HPW.out (fun k hk => (HFS.out k hk).step (RanS.of_below hbel))
   have HPO : Hid (ClPost P rs w (.returned (.slice ro' ps.length rc')) w1) := hid ⟨ro',rc',by rw [← HPS.out,List.length_map],by rw [← HPS.out]; exact hfr,hbel⟩
   subst hv
   clear ho0 hgrow hnil hown hfr hbel
   go_wp2_with fail
   go_ret
   exact HPO.out
namespace Env
theorem vals_rules (x : Inf) (h : IHd) (ro : Option Addr) (rc : Nat) : (x.vals h).toArray.setIfInBounds 22 (.slice ro x.rules.length rc) = (x.vals { h with ro := ro,rc := rc }).toArray := rfl
theorem vals_one (x : Inf) (h : IHd) : (x.vals h).toArray.all (·.oneCell') = true := by kernel_rfl
theorem FirmI.rules_new {P : Nat → Prop} {w w' : World} {x : Inf} {h : IHd} (f : FirmI P w x h) (b : Below w.heap.size w w') {ro : Option Addr} {rc : Nat} (hr : FirmR P w' ro x.rules) : FirmI P w' x { h with ro := ro,rc := rc } :=
 ⟨f.fit,f.ty.step (RanS.of_below b),f.va.step (RanS.of_below b),hr⟩
def OwPost (P : Nat → Prop) (x : Inf) (w : World) (e : Ending) (w' : World) : Prop := ∃ h,e = .returned (.agg (x.vals h).toArray) ∧ FirmI P w' x h ∧ Below w.heap.size w w'
end Env
theorem owned_any {P : Nat → Prop} {w : World} (x : Inf) (h : IHd) (hf : FirmI P w x h) (hP : ∀ q,P q → q < w.heap.size) (hn : x.rules.length ≤ 1000) : Calls Tryz.prog 62 #[.agg (x.vals h).toArray] w (OwPost P x w) := by
 obtain ⟨W0,hW0⟩ : ∃ W0,W0 = (w.alloc (.cells (x.vals h).toArray 46)).alloc (.cells Inf.zeros 46) := ⟨_,rfl⟩
 have HB0 := hid (show Below w.heap.size w W0 from hW0 ▸ below_two _ _ _)
 have HX0 := hid (show IBox W0 w.heap.size x h from hW0 ▸ new1of2 _ _ _)
 have HZ0 := hid (show W0.heap[w.heap.size + 1]? = some (.cells Inf.zeros 46) from hW0 ▸ new2 _ _ _)
 obtain ⟨P2,hP2⟩ : ∃ P2 : Nat → Prop,P2 = fun q => P q ∨ q = w.heap.size ∨ q = w.heap.size + 1 := ⟨_,rfl⟩
 have hz1 : W0.heap.size = w.heap.size + 2 := by rw [hW0]; simp
 have HF0 := hid (show FirmI P2 W0 x h from hf.turn (RanS.of_below HB0.out) (fun q hq => by rw [hP2] at hq; rcases hq with e | e | e; exact Or.inl e; exact Or.inr (by omega); exact Or.inr (by omega)))
 have HC := hid (CloneR_any x.rules h.ro h.rc HF0.out.rules (fun q hq => by rw [hP2] at hq; rcases hq with e | e | e; have := hP q e; omega; omega; omega) hn)
 have HPA := hid (show P2 w.heap.size from by rw [hP2]; exact Or.inr (Or.inl rfl))
 have HPB := hid (show P2 (w.heap.size + 1) from by rw [hP2]; exact Or.inr (Or.inr rfl))
 have HPS := hid (show ∀ q,P q → P2 q from fun q hq => by rw [hP2]; exact Or.inl hq)
 have HKI : Hid ((Tryz.prog.info? 46).map (·.size) = some 25) := hid infoInf
 clear hz1 hP2
 have c22 : W0.cell? ⟨w.heap.size,22,none⟩ = some (.slice h.ro x.rules.length h.rc) := HX0.out.cell 22
 have hz0 : W0.heap.size = w.heap.size + 2 := by rw [hW0]; simp
 have HSZ := hid hz0
 clear hf hP hn hz0
 unfold Inf.zeros at hW0
 go_enter Tryz.func62,Tryz.ntmps62
 go_upto_region 1 with fail
 rw [← hW0]
 clear hW0
 go_wp2_with fail
 refine HC.out.mono ?_
 rintro y w1 ⟨ro,rc,rfl,hfr,b1⟩
 have HB1 := hid (Trm.go HB0.out b1)
 have HX1 := hid (HX0.out.keep b1)
 have HZ1 := hid (Lvl.keep b1 HZ0.out)
 have HF1 := hid (HF0.out.rules_new b1 (rc := rc) hfr)
 obtain ⟨W2,hW2⟩ : ∃ W2,W2 = w1.setCell ⟨w.heap.size,22,none⟩ (.slice ro x.rules.length rc) := ⟨_,rfl⟩
 have HR2 := hid (show RanS (fun q => q = w.heap.size) w1 W2 from hW2 ▸ set_ranE _ _ _ _ rfl)
 have HX2 := hid (show IBox W2 w.heap.size x { h with ro := ro,rc := rc } from by
  have h1 := cells_setE (i := 22) (show w1.heap[w.heap.size]? = some (.cells (x.vals h).toArray 46) from HX1.out) (.slice ro x.rules.length rc)
  rw [vals_rules] at h1
  rw [hW2]; exact h1)
 have HZ2 := hid (HR2.out.keep HZ1.out (by omega))
 have HB2 := hid (HB1.out.trans (HR2.out.below (fun q hq => by omega) HB1.out.size))
 have HF2 := hid (HF1.out.step (HR2.out.wide (fun q hq => by rw [hq]; exact HPA.out)))
 have cx : w1.cell? ⟨w.heap.size,22,none⟩ = some (.slice h.ro x.rules.length h.rc) := HX1.out.cell 22
 have fx : w1.frozen? ⟨w.heap.size,22,none⟩ = false := by
  have h1 : w1.heap[w.heap.size]? = some (.cells (x.vals h).toArray 46) := HX1.out
  simp [World.frozen?,h1]
 clear hfr b1 c22
 go_upto_region 2 with fail
 rw [← hW2]
 clear hW2 cx fx
 obtain ⟨cs,hcs⟩ : ∃ cs,cs = x.vals { h with ro := ro,rc := rc } := ⟨_,rfl⟩
 have hcl : cs.length = 25 := by rw [hcs]; rfl
 have HONE := hid (show cs.toArray.all (·.oneCell') = true from by rw [hcs]; exact vals_one _ _)
 have HRG := hid (show W2.rangeAt w.heap.size 0 cs from by rw [hcs]; exact HX2.out.range)
 have HCL : Hid ((Tryz.prog.info? 46).map (·.size) = some cs.length) := hid (by rw [HKI.out,hcl])
 have HCA : Hid ((Tryz.prog.info? 46).map (·.size) = some cs.toArray.size) := hid (by rw [HKI.out,List.size_toArray,hcl])
 have HC25 : Hid (Inf.zeros.size = cs.toArray.size) := hid (by show (25 : Nat) = cs.toArray.size; rw [List.size_toArray,hcl])
 have HPO := hid (show OwPost P x w (.returned (.agg cs.toArray)) (W2.setRow (w.heap.size + 1) cs.toArray) from by
  have hr3 : RanS P2 W2 (W2.setRow (w.heap.size + 1) cs.toArray) := by
   have hb := below_setRow (Below.refl (w.heap.size + 1) W2) (Nat.le_refl _) cs.toArray
   refine ⟨hb.os,hb.tape,hb.output,hb.size,fun q _ hq => ?_⟩
   have hne : q ≠ w.heap.size + 1 := fun e => hq (e ▸ HPB.out)
   simp [World.setRow,Array.getElem?_modify,Ne.symm hne]
  exact ⟨{ h with ro := ro,rc := rc },by rw [hcs],(HF2.out.step hr3).turn (RanS.refl _ _) (fun q hq => Or.inl (HPS.out q hq)),below_setRow HB2.out (by omega) _⟩)
 clear hcs hcl
 go_wp2_with (first
  | (refine wpList_load_mid rfl 46 (.tmp 1) rfl w.heap.size 0 rfl cs _ HRG.out Tryz.underlying46 rfl HCL.out ?_)
  | (refine wpList_store_row rfl 46 (.tmp 2) (.tmp 7) rfl (w.heap.size + 1) cs.toArray rfl rfl 46 Inf.zeros HZ2.out HCA.out HC25.out HONE.out ?_))
 exact bodyPost_ret_by (results_cell_row rfl _ _ (w.heap.size + 1) 46 _ (0,0) _ rfl (setRow_heap W2 _ _ _ _ _ HZ2.out) Tryz.underlying46 rfl HCA.out) rfl HPO.out
end Go.Proofs.YtiekbhlnnmnklaaGreat
namespace Go.Proofs.YtiekbhlnnmnklaaGreat
open Go.RowKit Go.Shelf Go.Maps Lvl Trm Env
namespace Env
theorem results_two {fn : Func} {p u : Tmp} {ty : TypeId} (h : fn.results = #[.cell p ty,.tmp u]) (tmps : Array Value) (w : World) (g : Nat) (cs : Array Value) (uv : Value)
 (hp : tmps.getD p undef = .pointer (some ⟨g,0,none⟩)) (hu0 : tmps.getD u undef = uv) (hl : (loadVar ty ⟨g,0,none⟩).run Tryz.prog w = .ok (.agg cs) w) :
 (results fn tmps).run Tryz.prog w = .ok (.tuple #[.agg cs,uv]) w := by
 have hp' : tmps[p]?.getD undef = .pointer (some ⟨g,0,none⟩) := by simpa using hp
 have hu' : tmps[u]?.getD undef = uv := by simpa using hu0
 simp [results,h,hp',hu',asAddr,hl]
def zInfo : Value := .agg Inf.zeros
def FdPost (P : Nat → Prop) (L : List Ent) (k : List UInt8) (w : World) (y : Ending) (w' : World) : Prop :=
 Below w.heap.size w w' ∧ ((lookE L k = none ∧ y = .returned (.tuple #[zInfo,.bool false])) ∨ ∃ p h,lookE L k = some p ∧ y = .returned (.tuple #[.agg (p.2.1.vals h).toArray,.bool true]) ∧ FirmI P w' p.2.1 h)
theorem EnvB.start {B : Nat} {w : World} (hB : B ≤ w.heap.size) : EnvB B (w.alloc (.cells #[.map none,.slice none 0 0] 99)) w.heap.size [] none (.slice none 0 0) :=
 { box := World.alloc_heap_new _ _
   row := World.ownsRow_nil _ _ _ _
   map := Or.inl ⟨rfl,rfl⟩
   info := fun p hp => by simp at hp
   firm := fun p hp => by simp at hp
   nodup := List.nodup_nil
   apart := ⟨by simp [Value.ownBlock],by simp,fun q hq => by simp [Value.ownBlock] at hq⟩
   eB := hB
   hgt := fun p hp => by simp at hp
   few := by simp }
theorem EnvB.own_lt {B : Nat} {w : World} {e : Nat} {L : List Ent} {mo : Option Nat} {v : Value} (h : EnvB B w e L mo v) : ∀ q,ownE e v mo q → q < w.heap.size := by
 rintro q (rfl | hq | hq)
 ·exact (Array.getElem?_eq_some_iff.1 h.box).1
 ·exact (h.row.lt q hq).2
 ·rcases h.map with ⟨hm,_⟩ | ⟨m,D,hm,hown,_⟩
  ·rw [hm] at hq; cases hq
  ·rw [hm] at hq; injection hq with hq; subst hq; exact hown.lt
end Env
theorem envNew_any (w : World) : Calls Tryz.prog 17 #[] w fun y w' => y = .returned (.pointer (some ⟨w.heap.size,0,none⟩)) ∧ w' = w.alloc (.cells #[.map none,.slice none 0 0] 99) := by
 go_enter Tryz.func17,Tryz.ntmps17
 go_wp2_with fail
 go_ret
 exact ⟨rfl,rfl⟩
theorem find_any {P : Nat → Prop} {B : Nat} {w : World} {e : Nat} {L : List Ent} {mo : Option Nat} {v : Value} (h : EnvB B w e L mo v) (hPl : ∀ q,P q → q < w.heap.size) (hF : ∀ p ∈ L,FirmI P w p.2.1 p.2.2) (s : ByteArray) (hs : s.size ≤ maxLen) (hrs : ∀ p ∈ L,p.2.1.rules.length ≤ 1000) :
 Calls Tryz.prog 23 #[.pointer (some ⟨e,0,none⟩),.string s] w (FdPost P L (key s) w) := by
 obtain ⟨WA,hWA⟩ : ∃ WA,WA = w.alloc (.cells Inf.zeros 46) := ⟨_,rfl⟩
 have HBA := hid (show Below w.heap.size w WA from hWA ▸ below_one _ _)
 have HZ := hid (show WA.heap[w.heap.size]? = some (.cells Inf.zeros 46) from hWA ▸ World.alloc_heap_new _ _)
 have henv := h.below HBA.out
 have hat := at_any henv s hs
 have HKI : Hid ((Tryz.prog.info? 46).map (·.size) = some 25) := hid infoInf
 have HPO := hid (fun (y : Ending) (w' : World) (h1 : Below w.heap.size w w') (h2 : (lookE L (key s) = none ∧ y = .returned (.tuple #[zInfo,.bool false])) ∨ ∃ p hd,lookE L (key s) = some p ∧ y = .returned (.tuple #[.agg (p.2.1.vals hd).toArray,.bool true]) ∧ FirmI P w' p.2.1 hd) => (show FdPost P L (key s) w y w' from ⟨h1,h2⟩))
 have HENV := hid henv
 obtain ⟨P2,hP2⟩ : ∃ P2 : Nat → Prop,P2 = fun q => P q ∨ q = w.heap.size := ⟨_,rfl⟩
 have HFP := hid (show ∀ p ∈ L,FirmI P2 WA p.2.1 p.2.2 from fun p hp => (hF p hp).turn (RanS.of_below HBA.out) (fun q hq => by rw [hP2] at hq; rcases hq with e | e; exact Or.inl e; exact Or.inr (by omega)))
 have hsA : WA.heap.size = w.heap.size + 1 := by rw [hWA]; simp
 have HPL := hid (show ∀ q,P2 q → q < WA.heap.size from fun q hq => by rw [hP2] at hq; rcases hq with e1 | e1; have := hPl q e1; omega; omega)
 have HPA := hid (show P2 w.heap.size from by rw [hP2]; exact Or.inr rfl)
 have HPS := hid (show ∀ q,P q → P2 q from fun q hq => by rw [hP2]; exact Or.inl hq)
 clear hP2 hsA
 have HRS := hid hrs
 obtain ⟨Q,hQ⟩ : ∃ Q,Q = FdPost P L (key s) w := ⟨_,rfl⟩
 rw [← hQ] at HPO ⊢
 obtain ⟨O,hO⟩ : ∃ O,O = lookE L (key s) := ⟨_,rfl⟩
 rw [← hO] at hat HPO
 have HLK := hid (show ∀ p,O = some p → p ∈ L from fun p hp => (lookE_some (k := key s) (by rw [← hO]; exact hp)).1)
 have HAT := hid hat
 unfold Inf.zeros at hWA
 clear h henv hat hrs hQ hO hPl hF
 cases O with
 | none =>
   unfold ptrV at HAT
   have HC25 : Hid ((Tryz.prog.info? 46).map (·.size) = some Inf.zeros.size) := hid HKI.out
   have HONE : Hid (Inf.zeros.all (·.oneCell') = true) := hid (by kernel_rfl)
   have HEND := hid (HPO.out (.returned (.tuple #[zInfo,.bool false])) (WA.setRow w.heap.size Inf.zeros) (below_setRow HBA.out (Nat.le_refl _) _) (Or.inl ⟨rfl,rfl⟩))
   go_enter Tryz.func23,Tryz.ntmps23
   go_upto_region 1 with fail
   rw [← hWA]
   clear hWA
   go_wp2_with fail
   refine HAT.out.mono ?_
   rintro y w' ⟨rfl,rfl⟩
   go_wp2_with (first
    | (refine wpList_buildTo rfl 46 _ rfl (some 12) rfl Inf.zeros (by kernel_rfl) ?_)
    | (refine wpList_store_row rfl 46 (.tmp 4) (.tmp 12) rfl w.heap.size Inf.zeros rfl rfl 46 Inf.zeros HZ.out HC25.out rfl HONE.out ?_))
   exact bodyPost_ret_by (results_two rfl _ _ w.heap.size _ (.bool false) rfl rfl (run_loadVar_row _ _ _ _ _ _ _ (setRow_heap WA _ _ _ _ _ HZ.out) Tryz.underlying46 rfl HC25.out)) rfl HEND.out
 | some p =>
   have HP := hid (HLK.out p rfl)
   have HBX := hid (HENV.out.info p HP.out).1
   have HOW := hid (owned_any p.2.1 p.2.2 (HFP.out p HP.out) HPL.out (HRS.out p HP.out))
   unfold ptrV at HAT
   obtain ⟨cs,hcs⟩ : ∃ cs,cs = p.2.1.vals p.2.2 := ⟨_,rfl⟩
   have hcl : cs.length = 25 := by rw [hcs]; rfl
   have HRG := hid (show WA.rangeAt p.1 0 cs from by rw [hcs]; exact HBX.out.range)
   have HCL : Hid ((Tryz.prog.info? 46).map (·.size) = some cs.length) := hid (by rw [HKI.out,hcl])
   rw [← hcs] at HOW
   clear hcs hcl
   go_enter Tryz.func23,Tryz.ntmps23
   go_upto_region 1 with fail
   rw [← hWA]
   clear hWA
   go_wp2_with fail
   refine HAT.out.mono ?_
   rintro y w' ⟨rfl,rfl⟩
   go_wp2_with (refine wpList_load_mid rfl 46 (.tmp 14) rfl p.1 0 rfl cs _ HRG.out Tryz.underlying46 rfl HCL.out ?_)
   refine HOW.out.mono ?_
   rintro y w1 ⟨h1,rfl,hf1,b1⟩
   obtain ⟨c2,hc2⟩ : ∃ c2,c2 = (p.2.1.vals h1).toArray := ⟨_,rfl⟩
   have hsz : c2.size = 25 := by rw [hc2]; rfl
   have HZ1 := hid (Lvl.keep b1 HZ.out)
   have HCA : Hid ((Tryz.prog.info? 46).map (·.size) = some c2.size) := hid (by rw [HKI.out,hsz])
   have HC25 : Hid (Inf.zeros.size = c2.size) := hid (by rw [hsz]; rfl)
   have HONE := hid (show c2.all (·.oneCell') = true from by rw [hc2]; exact vals_one _ _)
   have hW3 : RanS (fun q => q = w.heap.size) w1 (w1.setRow w.heap.size c2) := by
    have hb := below_setRow (Below.refl w.heap.size w1) (Nat.le_refl _) c2
    refine ⟨hb.os,hb.tape,hb.output,hb.size,fun q _ hq => ?_⟩
    have hne : q ≠ w.heap.size := hq
    simp [World.setRow,Array.getElem?_modify,Ne.symm hne]
   have HEND := hid (HPO.out (.returned (.tuple #[.agg c2,.bool true])) (w1.setRow w.heap.size c2) (below_setRow (Trm.go HBA.out b1) (Nat.le_refl _) _) (Or.inr ⟨p,h1,rfl,by rw [hc2],(hf1.step (hW3.wide (fun q hq => by rw [hq]; exact HPA.out))).turn (RanS.refl _ _) (fun q hq => Or.inl (HPS.out q hq))⟩))
   rw [← hc2]
   clear hf1 b1 hc2 hsz hW3
   go_wp2_with (refine wpList_store_row rfl 46 (.tmp 4) (.tmp 16) rfl w.heap.size c2 rfl rfl 46 Inf.zeros HZ1.out HCA.out HC25.out HONE.out ?_)
   exact bodyPost_ret_by (results_two rfl _ _ w.heap.size _ (.bool true) rfl rfl (run_loadVar_row _ _ _ _ _ _ _ (setRow_heap w1 _ _ _ _ _ HZ1.out) Tryz.underlying46 rfl HCA.out)) rfl HEND.out
end Go.Proofs.YtiekbhlnnmnklaaGreat
namespace Go.Proofs.YtiekbhlnnmnklaaGreat
open Go.RowKit Go.Shelf Go.Maps Lvl Trm Env
namespace Env
def hof (L : List Ent) (k : List UInt8) : Int := match lookE L k with
 | none => 0
 | some p => p.2.1.height
def maxH (L : List Ent) (l : List (List UInt8)) : Int := l.foldl (fun h k => max h (hof L k)) 0
theorem fold_ge (f : List UInt8 → Int) : ∀ (l : List (List UInt8)) (a : Int),a ≤ l.foldl (fun h k => max h (f k)) a ∧ (∀ k ∈ l,f k ≤ l.foldl (fun h k => max h (f k)) a)
 | [],a => ⟨Int.le_refl _,fun k hk => by cases hk⟩
 | x :: r,a => by
   obtain ⟨h1,h2⟩ := fold_ge f r (max a (f x))
   refine ⟨by rw [List.foldl_cons]; omega,fun k hk => ?_⟩
   rw [List.foldl_cons]
   rcases List.mem_cons.1 hk with rfl | hk
   ·omega
   ·exact h2 k hk
theorem fold_le (f : List UInt8 → Int) : ∀ (l : List (List UInt8)) (a M : Int),a ≤ M → (∀ k ∈ l,f k ≤ M) → l.foldl (fun h k => max h (f k)) a ≤ M
 | [],a,M,h,_ => h
 | x :: r,a,M,h,hk => by
   rw [List.foldl_cons]
   exact fold_le f r _ M (by have := hk x (by simp); omega) (fun k hm => hk k (by simp [hm]))
theorem maxH_same {L : List Ent} {l l' : List (List UInt8)} (h : ∀ k,k ∈ l ↔ k ∈ l') : maxH L l = maxH L l' := by
 have h1 := fold_ge (hof L) l 0
 have h2 := fold_ge (hof L) l' 0
 have h3 := fold_le (hof L) l 0 _ h2.1 (fun k hk => h2.2 k ((h k).1 hk))
 have h4 := fold_le (hof L) l' 0 _ h1.1 (fun k hk => h1.2 k ((h k).2 hk))
 unfold maxH
 omega
theorem maxH_take {L : List Ent} {l : List (List UInt8)} {k : Nat} (hk : k < l.length) : maxH L (l.take (k + 1)) = max (maxH L (l.take k)) (hof L l[k]) := by
 unfold maxH
 rw [List.take_succ_eq_append_getElem hk,List.foldl_append]
 rfl
theorem maxH_le {L : List Ent} {l : List (List UInt8)} {M : Int} (h0 : 0 ≤ M) (h : ∀ p ∈ L,p.2.1.height ≤ M) : 0 ≤ maxH L l ∧ maxH L l ≤ M := by
 refine ⟨(fold_ge (hof L) l 0).1,fold_le (hof L) l 0 M h0 fun k _ => ?_⟩
 unfold hof
 split
 ·exact h0
 ·rename_i p hp
  exact h p (lookE_some hp).1
def HtRel (w : World) (L : List Ent) (l : List (List UInt8)) (v i : Value) (wr : World) : Prop := ∃ k : Nat,i = .int .i64 k ∧ v = .int .i64 (maxH L (l.take k)) ∧ k ≤ l.length ∧ w = wr
end Env
theorem height_any {B : Nat} {w : World} {e : Nat} {L : List Ent} {mo : Option Nat} {v : Value} (h : EnvB B w e L mo v) (t : Tm) (ht : Hd) (hin : t.In w.heap.size w ht) (hm : t.may = true) :
 Calls Tryz.prog 31 #[.pointer (some ⟨e,0,none⟩),t.val ht] w fun y w' => y = .returned (.int .i64 (maxH L t.nms)) ∧ Below w.heap.size w w' := by
 obtain ⟨WA,hWA⟩ : ∃ WA,WA = w.alloc (t.box ht) := ⟨_,rfl⟩
 have HBA := hid (show Below w.heap.size w WA from hWA ▸ below_one _ _)
 have HBX := hid (show WA.heap[w.heap.size]? = some (t.box ht) from hWA ▸ World.alloc_heap_new w _)
 have HN := hid (Names_yes t ht WA (carry hin HBA.out) hm)
 have HENV := hid (fun (W : World) (hW : Below WA.heap.size WA W) => (h.below (Trm.go HBA.out hW)))
 have HM := hid hm
 obtain ⟨G,hG⟩ : ∃ G,G = maxH L t.nms := ⟨_,rfl⟩
 rw [← hG]
 have HG := hid hG
 have hmax := run_max
 clear h hin hm hG
 unfold Tm.val Tm.vals at *
 go_enter Tryz.func31,Tryz.ntmps31
 unfold Tm.box Tm.vals at hWA
 go_upto_region 1 with fail
 rw [← hWA]
 clear hWA
 obtain ⟨x0,x1,x2,x3,x4⟩ := Tm.cells HBX.out
 go_wp2_with fail
 refine HN.out.mono ?_
 rintro y w1 ⟨ao,cp,l,rfl,hsr,hri,hmem,b1⟩
 have hfew := names_few HM.out hri hmem
 have HFEW := hid hfew
 have HLONG := hid (fun k (hk2 : k ∈ l) => nms_long HM.out k ((hmem k).1 hk2))
 have HSAME := hid (show maxH L l = G from by rw [HG.out]; exact maxH_same hmem)
 have HE1 := hid (HENV.out w1 b1)
 have HSR := hid hsr
 have HB1 := hid (Trm.go HBA.out b1)
 clear hsr hri hmem b1 hfew x0 x1 x2 x3 x4
 go_wp2_with fail
 go_loopw [5,12] (fun v i wr => HtRel w1 L l v i wr) (fun _ i _ => l.length - (intOf i).toNat)
 case atStart => exact ⟨0,rfl,rfl,by omega,rfl⟩
 case round =>
  obtain ⟨k,rfl,rfl,hk,rfl⟩ := hrel
  by_cases hlt : k < l.length
  ·obtain ⟨b,off,hao,hb,hc⟩ := HSR.out.place k hlt
   subst hao
   have hat := at_any HE1.out ⟨l[k].toArray⟩ (by show l[k].toArray.size ≤ maxLen; rw [List.size_toArray]; exact HLONG.out _ (List.getElem_mem hlt))
   have hkk : key ⟨l[k].toArray⟩ = l[k] := by simp [key]
   rw [hkk] at hat
   have HTK := hid (maxH_take (L := L) hlt)
   have hhof : hof L l[k] = (match lookE L l[k] with | none => 0 | some p => p.2.1.height) := rfl
   obtain ⟨O,hO⟩ : ∃ O,O = lookE L l[k] := ⟨_,rfl⟩
   rw [← hO] at hat hhof
   have HAT := hid hat
   have HMP := hid (show ∀ p,O = some p → IBox w1 p.1 p.2.1 p.2.2 from fun p hp => (HE1.out.info p (lookE_some (k := l[k]) (by rw [← hO]; exact hp)).1).1)
   have HM0 := hid (maxH_le (L := L) (l := l.take k) (M := 4096) (by omega) (fun p hp => by have := (HE1.out.hgt p hp).2; have := HE1.out.few; omega))
   obtain ⟨M,hM⟩ : ∃ M,M = maxH L (l.take k) := ⟨_,rfl⟩
   rw [← hM] at HTK HM0 ⊢
   have hwk : wrap64 ((k : Int) + 1) = (k : Int) + 1 := IntWalk.wrap64_in _ (by have := HFEW.out; omega)
   generalize (⟨l[k].toArray⟩ : ByteArray) = s at hc HAT
   have HLT := hid hlt
   clear hkk hat hO hM
   cases O with
   | none =>
     have HNX : Hid (HtRel w1 L l (.int .i64 M) (.int .i64 ((k : Int) + 1)) w1) := hid ⟨k + 1,rfl,by rw [HTK.out,hhof]; have := HM0.out.1; rw [show max M 0 = M by omega],HLT.out,rfl⟩
     unfold ptrV at HAT
     clear hhof
     go_wp2_with fail
     refine HAT.out.mono ?_
     rintro y w' ⟨rfl,rfl⟩
     go_wp2_with fail
     go_roundw
     case rel => rw [hwk]; exact HNX.out
     case measure => exact less_step hwk HLT.out
   | some p =>
     have c13 : w1.cell? ⟨p.1,13,none⟩ = some (.int .i64 p.2.1.height) := (HMP.out p rfl).cell 13
     have HNX : Hid (HtRel w1 L l (.int .i64 (max M p.2.1.height)) (.int .i64 ((k : Int) + 1)) w1) := hid ⟨k + 1,rfl,by rw [HTK.out,hhof],HLT.out,rfl⟩
     unfold ptrV at HAT
     generalize p.2.1.height = H at c13 HNX
     clear hhof HMP
     go_wp2_with fail
     refine HAT.out.mono ?_
     rintro y w' ⟨rfl,rfl⟩
     go_wp2_with fail
     go_roundw
     case rel => rw [hwk]; exact HNX.out
     case measure => exact less_step hwk HLT.out
  ·have hke : k = l.length := by omega
   subst hke
   have HE : Hid (maxH L (l.take l.length) = G) := hid (by rw [List.take_length]; exact HSAME.out)
   generalize maxH L (l.take l.length) = M at HE
   go_wp2_with fail
   go_ret
   exact ⟨by rw [← HE.out]; rfl,HB1.out⟩
end Go.Proofs.YtiekbhlnnmnklaaGreat
