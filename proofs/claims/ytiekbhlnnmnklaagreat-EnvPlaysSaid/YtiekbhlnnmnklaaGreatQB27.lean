/-
 env.Add: all of these infos,one behind another,or none.
-/
import Derived.Lib.Hide
import Derived.Test.YtiekbhlnnmnklaaGreatQB1
import Derived.Test.YtiekbhlnnmnklaaGreatQB26
import Derived.Test.YtiekbhlnnmnklaaGreatQB23
import Derived.Test.YtiekbhlnnmnklaaGreatQB19
open Go.Lib (hid)
set_option maxRecDepth 100000
set_option maxHeartbeats 32000000
namespace Go.Proofs.YtiekbhlnnmnklaaGreat
open Go.RowKit Go.Shelf Go.Maps Lvl Trm Env
namespace Env
inductive Added (L : List Ent) : List Inf → List Ent → Prop where
 | nil : Added L [] L
 | snoc {l : List Inf} {M : List Ent} (x : Inf) (b : Nat) (h : IHd) : Added L l M → Added L (l ++ [x]) (M ++ [(b,fixI M x,h)])
theorem Added.len {L M : List Ent} {l : List Inf} (h : Added L l M) : M.length = L.length + l.length := by
 induction h with
 | nil => rfl
 | snoc x b h _ ih => simp [ih]; omega
theorem Added.keys {L M : List Ent} {l : List Inf} (h : Added L l M) : M.map ekey = L.map ekey ++ names l := by
 induction h with
 | nil => simp [names]
 | snoc x b h _ ih => rw [List.map_append,ih]; simp [names,ekey,fixI]
theorem lookE_not {M : List Ent} {k : List UInt8} (h : k ∉ M.map ekey) : lookE M k = none := by
 unfold lookE
 rw [List.find?_eq_none]
 intro p hp he
 exact h (List.mem_map.2 ⟨p,hp,by simpa using he⟩)
theorem lookE_not' {M : List Ent} {k : List UInt8} (h : lookE M k = none) : k ∉ M.map ekey := fun hk => by
 obtain ⟨p,hp,he⟩ := List.mem_map.1 hk
 exact lookE_none h p hp he
theorem wrongI_zero {L : List Ent} {ks : List (List UInt8)} {i : Nat} {x : Inf} (h : wrongI L ks i x = 0) : nameOk x.name = true ∧ lookE L (key x.name) = none ∧ i ≤ ks.idxOf (key x.name) ∧ x.isKind = true ∧ ∀ t ∈ x.terms,t.may = true := by
 unfold wrongI at h
 split at h
 ·simp at h
 split at h
 ·simp at h
 split at h
 ·simp at h
 split at h
 ·simp at h
 split at h
 ·simp at h
 split at h
 ·simp at h
 split at h
 ·simp at h
 rename_i h1 h2 h3 h4 h5 h6 h7
 refine ⟨by simpa using h1,by simpa using h2,by omega,by simpa using h4,?_⟩
 unfold wrongT at h
 split at h
 ·rename_i h8
  exact open_may h8.symm
 ·rename_i h8; exact absurd h h8
theorem wrongL_all {L : List Ent} {l : List Inf} (h : wrongL L l = 0) : ∀ j (hj : j < l.length),wrongI L (names l) j l[j] = 0 := fun j hj => by
 unfold wrongL at h
 have := firstE_all h.symm (l[j],j) (by rw [List.mem_zipIdx_iff_getElem?]; simp [hj])
 exact this
theorem names_take_not {l : List Inf} {k : Nat} (hk : k < l.length) (h : k ≤ (names l).idxOf (key l[k].name)) : key l[k].name ∉ names (l.take k) := fun hm => by
 obtain ⟨x,hx,he⟩ := List.mem_map.1 hm
 obtain ⟨j,hj,rfl⟩ := List.mem_iff_getElem.1 hx
 rw [List.length_take] at hj
 have hj2 : j < (names l).length := by rw [names,List.length_map]; omega
 have h1 : (names l)[j] = key l[k].name := by rw [← he]; simp [names]
 have h3 : j < (names l).findIdx (· == key l[k].name) := by
  have : (names l).idxOf (key l[k].name) = (names l).findIdx (· == key l[k].name) := rfl
  omega
 have h2 := List.not_of_lt_findIdx h3
 rw [h1] at h2
 simp at h2
theorem Added.fresh {L M : List Ent} {l : List Inf} {k : Nat} (ha : Added L (l.take k) M) (hw : wrongL L l = 0) (hk : k < l.length) : lookE M (key l[k].name) = none := by
 obtain ⟨_,h2,h3,_,_⟩ := wrongI_zero (wrongL_all hw k hk)
 apply lookE_not
 rw [ha.keys,List.mem_append]
 rintro (h | h)
 ·exact lookE_not' h2 h
 ·exact names_take_not hk h3 h
structure InfFirm (P : Nat → Prop) (w : World) (lo : Option Addr) (l : List Inf) : Prop where
 place : ∀ k (hk : k < l.length),∃ b off hd,lo = some ⟨b,off,none⟩ ∧ b < w.heap.size ∧ ¬ P b ∧ w.rangeAt b (off + k * 25) (l[k].vals hd) ∧ FirmI P w l[k] hd
theorem InfFirm.turn {P P' : Nat → Prop} {w w' : World} {lo : Option Addr} {l : List Inf} (h : InfFirm P w lo l) (hr : RanS P w w') (hP : ∀ q,P' q → P q ∨ w.heap.size ≤ q) : InfFirm P' w' lo l := ⟨fun k hk => by
 obtain ⟨b,off,hd,h1,h2,h3,h4,h5⟩ := h.place k hk
 exact ⟨b,off,hd,h1,Nat.lt_of_lt_of_le h2 hr.size,fun hp => by rcases hP b hp with a | a; exact h3 a; omega,range_ran h4 hr h2 h3,h5.turn hr hP⟩⟩
theorem InfFirm.here {P : Nat → Prop} {w : World} {lo : Option Addr} {l : List Inf} (h : InfFirm P w lo l) : InfRow w.heap.size w lo l := ⟨fun k hk => by
 obtain ⟨b,off,hd,h1,h2,_,h4,h5⟩ := h.place k hk
 exact ⟨b,off,hd,h1,h2,h4,h5.here⟩⟩
theorem InfFirm.of {P : Nat → Prop} {B : Nat} {w : World} {lo : Option Addr} {l : List Inf} (h : InfRow B w lo l) (hm : ∀ k,P k → B ≤ k) (hB : B ≤ w.heap.size) : InfFirm P w lo l := ⟨fun k hk => by
 obtain ⟨b,off,hd,h1,h2,h3,h4⟩ := h.place k hk
 exact ⟨b,off,hd,h1,by omega,fun hp => by have := hm b hp; omega,h3,FirmI.of h4 hm hB⟩⟩
def AddRel (P : Nat → Prop) (B e : Nat) (L : List Ent) (mo : Option Nat) (v : Value) (w : World) (lo : Option Addr) (l : List Inf) (k : Nat) (W : World) : Prop :=
 ∃ M mo' v',Added L (l.take k) M ∧ EnvB B W e M mo' v' ∧ InfFirm (fun q => P q ∨ ownE e v' mo' q) W lo l ∧ (∀ q,ownE e v' mo' q → ownE e v mo q ∨ w.heap.size ≤ q) ∧ RanS (ownE e v mo) w W ∧ (∀ p ∈ M,p ∈ L ∨ (w.heap.size ≤ p.1 ∧ FirmI (fun q => P q ∨ ownE e v' mo' q) W p.2.1 p.2.2))
def AddPost (P : Nat → Prop) (B e : Nat) (L : List Ent) (mo : Option Nat) (v : Value) (w : World) (l : List Inf) (y : Ending) (W : World) : Prop :=
 (4096 < L.length + l.length ∧ y = .returned (.int .i64 4) ∧ Below w.heap.size w W) ∨
 (L.length + l.length ≤ 4096 ∧ wrongL L l ≠ 0 ∧ y = .returned (.int .i64 (wrongL L l)) ∧ Below w.heap.size w W) ∨
 (L.length + l.length ≤ 4096 ∧ wrongL L l = 0 ∧ y = .returned (.int .i64 0) ∧ ∃ M mo' v',Added L l M ∧ EnvB B W e M mo' v' ∧ (∀ q,ownE e v' mo' q → ownE e v mo q ∨ w.heap.size ≤ q) ∧ RanS (ownE e v mo) w W ∧ (∀ p ∈ M,p ∈ L ∨ (w.heap.size ≤ p.1 ∧ FirmI (fun q => P q ∨ ownE e v' mo' q) W p.2.1 p.2.2)))
theorem name_len {s : ByteArray} (h : nameOk s = true) : s.size ≤ maxLen := by
 by_cases h2 : 32 < s.size
 ·rw [nameOk_no (Or.inr h2)] at h; cases h
 ·exact Nat.le_trans (Nat.not_lt.1 h2) (by decide)
theorem AddRel.zero {P : Nat → Prop} {B : Nat} {w W : World} {e : Nat} {L : List Ent} {mo : Option Nat} {v : Value} {lo : Option Addr} {l : List Inf} (h : EnvB B w e L mo v) (hPo : ∀ q,ownE e v mo q → P q) (hr : InfFirm P w lo l) (hb : Below w.heap.size w W) : AddRel P B e L mo v w lo l 0 W :=
 ⟨L,mo,v,by simpa using Added.nil,h.below hb,hr.turn (RanS.of_below hb) (fun q a => Or.inl (a.elim id (hPo q))),fun _ a => Or.inl a,RanS.of_below hb,fun p hp => Or.inl hp⟩
theorem AddRel.less {P : Nat → Prop} {B : Nat} {w W W2 : World} {e k : Nat} {L : List Ent} {mo : Option Nat} {v : Value} {lo : Option Addr} {l : List Inf} (h : AddRel P B e L mo v w lo l k W) (hb : Below W.heap.size W W2) : AddRel P B e L mo v w lo l k W2 := by
 obtain ⟨M,mo',v',h1,h2,h3,h4,h5,h6⟩ := h
 exact ⟨M,mo',v',h1,h2.below hb,h3.turn (RanS.of_below hb) (fun _ a => Or.inl a),h4,h5.trans (RanS.of_below hb),fun p hp => (h6 p hp).imp id (fun a => ⟨a.1,a.2.turn (RanS.of_below hb) (fun _ a => Or.inl a)⟩)⟩
theorem AddRel.next {P : Nat → Prop} {B : Nat} {w W : World} {e k : Nat} {L : List Ent} {mo : Option Nat} {v : Value} {lo : Option Addr} {l : List Inf} (h : AddRel P B e L mo v w lo l k W) (hPl : ∀ q,P q → q < w.heap.size) (hk : k < l.length) (hw : wrongL L l = 0) (hn : L.length + l.length ≤ 4096) (hrs : ∀ x ∈ l,x.rules.length ≤ 1000) :
 ∃ b off hd,lo = some ⟨b,off,none⟩ ∧ W.rangeAt b (off + k * 25) (l[k].vals hd) ∧ b < W.heap.size ∧
   ∀ W2,Below W.heap.size W W2 → Calls Tryz.prog 58 #[.pointer (some ⟨e,0,none⟩),.agg (l[k].vals hd).toArray] W2 fun y W3 => y = .returned (.tuple #[]) ∧ AddRel P B e L mo v w lo l (k + 1) W3 := by
 obtain ⟨M,mo',v',h1,h2,h3,h4,h5,h6⟩ := h
 obtain ⟨b,off,hd,g1,g2,g3,g4,g5⟩ := h3.place k hk
 obtain ⟨q1,_,_,q4,q5⟩ := wrongI_zero (wrongL_all hw k hk)
 have hlen := h1.len
 rw [List.length_take] at hlen
 refine ⟨b,off,hd,g1,g4,g2,fun W2 hb => ?_⟩
 have hs5 := h5.size
 have hsb := hb.size
 have hPW : ∀ q,(P q ∨ ownE e v' mo' q) → q < W2.heap.size := fun q hq => by
  rcases hq with a | a
  ·have := hPl q a; omega
  ·have := h2.own_lt q a; omega
 refine (put_any (P := fun q => P q ∨ ownE e v' mo' q) (h2.below hb) (fun q a => Or.inr a) hPW l[k] hd (g5.step (RanS.of_below hb)) (hrs _ (List.getElem_mem hk)) (name_len q1) (h1.fresh hw hk) (fun h2 => q5 _ (by simp [Inf.terms,Inf.hv,h2])) (by omega)).mono ?_
 rintro y W3 ⟨rfl,mo2,v2,h',r1,r2,r3,r4⟩
 have hr3 : RanS (fun q => P q ∨ ownE e v' mo' q) W W3 := (RanS.of_below hb).trans (r3.wide (fun q a => Or.inr a))
 have hP3 : ∀ q,(P q ∨ ownE e v2 mo2 q) → (P q ∨ ownE e v' mo' q) ∨ W.heap.size ≤ q := fun q hq => by
  rcases hq with a | a
  ·exact Or.inl (Or.inl a)
  ·exact (r2 q a).imp Or.inr (fun a => by omega)
 refine ⟨rfl,M ++ [(W2.heap.size,fixI M l[k],h')],mo2,v2,?_,r1,?_,?_,?_,?_⟩
 ·rw [← List.take_append_getElem hk]
  exact .snoc _ _ _ h1
 ·exact h3.turn hr3 hP3
 ·intro q hq
  rcases r2 q hq with a | a
  ·exact h4 q a
  ·exact Or.inr (by omega)
 ·exact ran_goE (h5.trans (RanS.of_below hb)) r3 h4
 ·intro p hp
  rcases List.mem_append.1 hp with hp | hp
  ·exact (h6 p hp).imp id (fun a => ⟨a.1,a.2.turn hr3 hP3⟩)
  ·simp at hp
   subst hp
   exact Or.inr ⟨by omega,r4.turn (RanS.refl _ _) (fun q hq => Or.inl (hq.elim (fun a => Or.inl (Or.inl a)) Or.inr))⟩
end Env
theorem add_any {P : Nat → Prop} {B : Nat} {w : World} {e : Nat} {L : List Ent} {mo : Option Nat} {v : Value} (h : EnvB B w e L mo v) (l : List Inf) (lo : Option Addr) (lc : Nat) (hPo : ∀ q,ownE e v mo q → P q) (hPl : ∀ q,P q → q < w.heap.size) (hr : InfFirm P w lo l) (hl : l.length ≤ 1000000) (hrs : ∀ x ∈ l,x.rules.length ≤ 1000) :
 Calls Tryz.prog 20 #[.pointer (some ⟨e,0,none⟩),.slice lo l.length lc] w (AddPost P B e L mo v w l) := by
 have HENV := hid h
 have HR := hid hr
 have HL := hid hl
 have HRS := hid hrs
 have HFEW := hid h.few
 have HPO := hid hPo
 have HPL := hid hPl
 clear hPo hPl
 obtain ⟨ao,cp,hv⟩ := row_slice h.row
 have hbox := h.box
 rw [hv] at hbox
 have c1 : w.cell? ⟨e,1,none⟩ = some (.slice ao L.length cp) := by simp [World.cell?,hbox]
 have hw4 : wrap64 (4096 - (L.length : Int)) = 4096 - (L.length : Int) := IntWalk.wrap64_in _ (by have := HFEW.out; omega)
 have HROW := hid hr.here
 by_cases hmany : 4096 < L.length + l.length
 ·have hlt : ((4096 : Int) - (L.length : Int) < (l.length : Int)) = True := eq_true (by omega)
  have HMANY := hid hmany
  clear h hr hl hrs hbox hmany
  go_enter Tryz.func20,Tryz.ntmps20
  go_wp2_with fail
  go_ret
  exact Or.inl ⟨HMANY.out,rfl,Below.refl _ _⟩
 ·have hlt : ((4096 : Int) - (L.length : Int) < (l.length : Int)) = False := eq_false (by omega)
  have HMANY : Hid (L.length + l.length ≤ 4096) := hid (by omega)
  have HZ : Hid (∀ W,Below w.heap.size w W → AddRel P B e L mo v w lo l 0 W) := hid (fun W hW => AddRel.zero h HPO.out hr hW)
  have HWR := hid (wrong_any h l lo lc hr.here hl hrs)
  clear h hr hl hrs hbox hmany
  obtain ⟨G,hG⟩ : ∃ G,G = wrongL L l := ⟨_,rfl⟩
  rw [← hG] at HWR
  have HG := hid hG
  clear hG
  go_enter Tryz.func20,Tryz.ntmps20
  go_wp2_with fail
  rw [← hv]
  refine HWR.out.mono ?_
  rintro y W1 ⟨rfl,b1⟩
  have HB1 := hid b1
  clear b1 HWR
  by_cases hz0 : G = 0
  ·have HGZ : Hid (wrongL L l = 0) := hid (HG.out.symm.trans hz0)
   subst hz0
   have HKI := hid infoInf
   have HST : Hid (∃ k : Nat,(Value.int .i64 0) = .int .i64 k ∧ k ≤ l.length ∧ AddRel P B e L mo v w lo l k W1) := hid ⟨0,rfl,by omega,HZ.out W1 HB1.out⟩
   clear HZ
   go_wp2_with fail
   go_loopw [29] (fun i wr => ∃ k : Nat,i = .int .i64 k ∧ k ≤ l.length ∧ AddRel P B e L mo v w lo l k wr) (fun i _ => l.length - (intOf i).toNat)
   case atStart => exact HST.out
   case round =>
    obtain ⟨k,rfl,hk,hadd⟩ := hrel
    by_cases hlt2 : k < l.length
    ·obtain ⟨b,off,hd,hlo,hrg,hb,hput⟩ := hadd.next HPL.out hlt2 HGZ.out HMANY.out HRS.out
     subst hlo
     have HPUT := hid hput
     obtain ⟨cs,hcs⟩ : ∃ cs,cs = l[k].vals hd := ⟨_,rfl⟩
     have hcl : cs.length = 25 := by rw [hcs]; rfl
     have hone : cs.toArray.all (·.oneCell') = true := by rw [hcs]; kernel_rfl
     rw [← hcs] at hrg HPUT
     clear hcs hadd hput
     have HRG := hid hrg
     have HCL : Hid ((Tryz.prog.info? 46).map (·.size) = some cs.length) := hid (by rw [HKI.out,hcl])
     have HCA : Hid ((Tryz.prog.info? 46).map (·.size) = some cs.toArray.size) := hid (by rw [HKI.out,List.size_toArray,hcl])
     have HC25 : Hid (Inf.zeros.size = cs.toArray.size) := hid (by show (25 : Nat) = cs.toArray.size; rw [List.size_toArray,hcl])
     have HONE := hid hone
     obtain ⟨WA,hWA⟩ : ∃ WA,WA = wr.alloc (.cells cs.toArray 46) := ⟨_,rfl⟩
     have HBA := hid (show Below wr.heap.size wr WA from hWA ▸ below_one _ _)
     have HBX := hid (show WA.rangeAt wr.heap.size 0 cs from fun j v hv => by
      have hn : WA.heap[wr.heap.size]? = some (.cells cs.toArray 46) := hWA ▸ World.alloc_heap_new wr _
      rw [Nat.zero_add]
      unfold World.cell?
      simp [hn]
      exact hv)
     have HLT := hid hlt2
     clear hrg hcl hone
     go_upto_region 11 with (first
      | (refine wpList_load_mid rfl 46 (.tmp 31) rfl b (off + k * 25) rfl cs _ HRG.out Tryz.underlying46 rfl HCL.out ?_)
      | (refine wpList_store_row rfl 46 (.tmp 7) (.tmp 32) rfl wr.heap.size cs.toArray rfl rfl 46 Inf.zeros (World.alloc_heap_new wr _) HCA.out HC25.out HONE.out ?_))
     rw [World.setRow_alloc_new,← hWA]
     clear hWA
     go_wp2_with (refine wpList_load_mid rfl 46 (.tmp 7) rfl wr.heap.size 0 rfl cs _ HBX.out Tryz.underlying46 rfl HCL.out ?_)
     refine (HPUT.out WA HBA.out).mono ?_
     rintro y w2 ⟨rfl,hrel2⟩
     have HREL2 := hid hrel2
     clear hrel2 HPUT
     have hwk : wrap64 ((k : Int) + 1) = (k : Int) + 1 := IntWalk.wrap64_in _ (by have := HL.out; have := HLT.out; omega)
     go_wp2_with fail
     go_roundw
     case rel => exact ⟨k + 1,by rw [hwk]; rfl,HLT.out,HREL2.out⟩
     case measure => exact less_step hwk HLT.out
    ·have HE : Hid (AddPost P B e L mo v w l (.returned (.int .i64 0)) wr) := hid (by
      obtain ⟨M,mo',v',h1,h2,h3,h4,h5,h6⟩ := hadd
      have hkl : k = l.length := by omega
      rw [hkl,List.take_length] at h1
      exact Or.inr (Or.inr ⟨HMANY.out,HGZ.out,rfl,M,mo',v',h1,h2,h4,h5,h6⟩))
     clear hadd
     go_wp2_with fail
     go_ret
     exact HE.out
  ·have hz1 : (G == 0) = false := by simpa using hz0
   have HGN : Hid (wrongL L l ≠ 0) := hid (fun hh => hz0 (HG.out.trans hh))
   go_wp2_with fail
   go_ret
   exact Or.inr (Or.inl ⟨HMANY.out,HGN.out,by rw [← HG.out]; rfl,HB1.out⟩)
end Go.Proofs.YtiekbhlnnmnklaaGreat
namespace Go.Proofs.YtiekbhlnnmnklaaGreat
open Go.RowKit Go.Shelf Go.Maps Lvl Trm Env
namespace Env
noncomputable def ofE (L : List Ent) (t : Tm) : Int :=
 if t.k = 3 ∧ t.may = true then (match lookE L (key t.s) with
  | none => 6
  | some p => if (t.ls.length : Int) = p.2.1.params then 0 else 8) else 1
noncomputable def ofO (L : List Ent) (t : Tm) : Option Ent := if ofE L t = 0 then lookE L (key t.s) else none
def OfPost (L : List Ent) (t : Tm) (w : World) (y : Ending) (w' : World) : Prop := y = .returned (.tuple #[ptrV (ofO L t),.int .i64 (ofE L t)]) ∧ Below w.heap.size w w'
theorem of_arg {L : List Ent} {t : Tm} {w w' : World} (h : ¬ (t.k = 3 ∧ t.may = true)) (b : Below w.heap.size w w') : OfPost L t w (.returned (.tuple #[.pointer none,.int .i64 1])) w' := by
 have h1 : ofE L t = 1 := by unfold ofE; rw [if_neg h]
 have h2 : ofO L t = none := by unfold ofO; rw [h1]; rfl
 exact ⟨by rw [h1,h2]; rfl,b⟩
theorem of_none {L : List Ent} {t : Tm} {w w' : World} (h : t.k = 3 ∧ t.may = true) (hl : lookE L (key t.s) = none) (b : Below w.heap.size w w') : OfPost L t w (.returned (.tuple #[.pointer none,.int .i64 6])) w' := by
 have h1 : ofE L t = 6 := by unfold ofE; rw [if_pos h,hl]
 have h2 : ofO L t = none := by unfold ofO; rw [h1]; rfl
 exact ⟨by rw [h1,h2]; rfl,b⟩
theorem of_level {L : List Ent} {t : Tm} {w w' : World} {p : Ent} (h : t.k = 3 ∧ t.may = true) (hl : lookE L (key t.s) = some p) (hn : ¬ (t.ls.length : Int) = p.2.1.params) (b : Below w.heap.size w w') : OfPost L t w (.returned (.tuple #[.pointer none,.int .i64 8])) w' := by
 have h1 : ofE L t = 8 := by unfold ofE; rw [if_pos h,hl]; simp only; rw [if_neg hn]
 have h2 : ofO L t = none := by unfold ofO; rw [h1]; rfl
 exact ⟨by rw [h1,h2]; rfl,b⟩
theorem of_ok {L : List Ent} {t : Tm} {w w' : World} {p : Ent} (h : t.k = 3 ∧ t.may = true) (hl : lookE L (key t.s) = some p) (hn : (t.ls.length : Int) = p.2.1.params) (b : Below w.heap.size w w') : OfPost L t w (.returned (.tuple #[.pointer (some ⟨p.1,0,none⟩),.int .i64 0])) w' := by
 have h1 : ofE L t = 0 := by unfold ofE; rw [if_pos h,hl]; simp only; rw [if_pos hn]
 have h2 : ofO L t = some p := by unfold ofO; rw [h1,if_pos rfl,hl]
 exact ⟨by rw [h1,h2]; rfl,b⟩
end Env
theorem of_any {B : Nat} {w : World} {e : Nat} {L : List Ent} {mo : Option Nat} {v : Value} (h : EnvB B w e L mo v) (t : Tm) (hd : Hd) (hin : t.In w.heap.size w hd) (hs : t.s.size ≤ maxLen) :
 Calls Tryz.prog 63 #[.pointer (some ⟨e,0,none⟩),t.val hd] w (OfPost L t w) := by
 obtain ⟨WA,hWA⟩ : ∃ WA,WA = w.alloc (t.box hd) := ⟨_,rfl⟩
 have HBA := hid (show Below w.heap.size w WA from hWA ▸ below_one _ _)
 have HBX := hid (show WA.heap[w.heap.size]? = some (t.box hd) from hWA ▸ World.alloc_heap_new w _)
 have HM := hid (PMay_any t hd WA (carry hin HBA.out))
 have HAT := hid (fun (W : World) (hW : Below WA.heap.size WA W) => at_any (h.below (Trm.go HBA.out hW)) t.s hs)
 have HENV := hid (fun (W : World) (hW : Below WA.heap.size WA W) => (h.below (Trm.go HBA.out hW)))
 have HARG := hid (fun (h1 : ¬ (t.k = 3 ∧ t.may = true)) (W : World) (b : Below w.heap.size w W) => of_arg (L := L) h1 b)
 have HNONE := hid (fun (h1 : t.k = 3 ∧ t.may = true) (hl : lookE L (key t.s) = none) (W : World) (b : Below w.heap.size w W) => of_none h1 hl b)
 have HLEV := hid (fun (h1 : t.k = 3 ∧ t.may = true) (p : Ent) (hl : lookE L (key t.s) = some p) (hn : ¬ (t.ls.length : Int) = p.2.1.params) (W : World) (b : Below w.heap.size w W) => of_level h1 hl hn b)
 have HOK := hid (fun (h1 : t.k = 3 ∧ t.may = true) (p : Ent) (hl : lookE L (key t.s) = some p) (hn : (t.ls.length : Int) = p.2.1.params) (W : World) (b : Below w.heap.size w W) => of_ok h1 hl hn b)
 have HIN := hid (fun p (hp : lookE L (key t.s) = some p) => (lookE_some hp).1)
 obtain ⟨Q,hQ⟩ : ∃ Q,Q = OfPost L t w := ⟨_,rfl⟩
 rw [← hQ] at HARG HNONE HLEV HOK ⊢
 obtain ⟨O,hO⟩ : ∃ O,O = lookE L (key t.s) := ⟨_,rfl⟩
 rw [← hO] at HAT HNONE HLEV HOK HIN
 clear h hin hs hQ hO
 unfold Tm.val Tm.vals at *
 go_enter Tryz.func63,Tryz.ntmps63
 unfold Tm.box Tm.vals at hWA
 go_upto_region 1 with fail
 rw [← hWA]
 clear hWA
 obtain ⟨x0,x1,x2,x3,x4⟩ := Tm.cells HBX.out
 by_cases hk : t.k = 3
 ·have hk0 : (t.k == 3) = true := by simpa using hk
  have hk1 : (t.k != 3) = false := by simpa using hk
  have HK := hid hk
  clear hk
  go_wp2_with fail
  refine HM.out.mono ?_
  rintro y w1 ⟨rfl,b1⟩
  have H1 := hid b1
  clear b1 HM x0 x1 x2 x3 x4
  obtain ⟨x0,x1,x2,x3,x4⟩ := Tm.cells (Lvl.keep H1.out HBX.out)
  cases hm : t.may
  ·have HE := hid (HARG.out (fun hh => by rw [hm] at hh; cases hh.2) w1 (Trm.go HBA.out H1.out))
   clear hm
   go_wp2_with fail
   exact HE.out
  ·have HKM : Hid (t.k = 3 ∧ t.may = true) := hid ⟨HK.out,hm⟩
   clear hm
   go_wp2_with fail
   refine (HAT.out w1 H1.out).mono ?_
   rintro y w2 ⟨rfl,rfl⟩
   cases O with
   | none =>
     have HE := hid (HNONE.out HKM.out rfl w1 (Trm.go HBA.out H1.out))
     unfold ptrV
     go_wp2_with fail
     exact HE.out
   | some p =>
     have HP := hid ((HENV.out w1 H1.out).info p (HIN.out p rfl)).1
     have cP : w1.cell? ⟨p.1,2,none⟩ = some (.int .i64 p.2.1.params) := by rw [HP.out.cell]; rfl
     unfold ptrV
     by_cases hn : (t.ls.length : Int) = p.2.1.params
     ·have HE := hid (HOK.out HKM.out p rfl hn w1.drew (Trm.go HBA.out H1.out).drew)
      have hn0 : ((t.ls.length : Int) == p.2.1.params) = true := by simpa using hn
      have hn1 : ((t.ls.length : Int) != p.2.1.params) = false := by simpa using hn
      clear hn
      go_wp2_with fail
      go_region_held3 (fun w' => w'.cell? ⟨w.heap.size,3,none⟩ = some (.slice hd.lo t.ls.length hd.lc) ∧ w'.cell? ⟨p.1,2,none⟩ = some (.int .i64 p.2.1.params)) (go_keep) (fail)
      go_wp2_with fail
      exact HE.out
     ·have HE := hid (HLEV.out HKM.out p rfl hn w1.drew (Trm.go HBA.out H1.out).drew)
      have hn0 : ((t.ls.length : Int) == p.2.1.params) = false := by simpa using hn
      have hn1 : ((t.ls.length : Int) != p.2.1.params) = true := by simpa using hn
      clear hn
      go_wp2_with fail
      go_region_held3 (fun w' => w'.cell? ⟨w.heap.size,3,none⟩ = some (.slice hd.lo t.ls.length hd.lc) ∧ w'.cell? ⟨p.1,2,none⟩ = some (.int .i64 p.2.1.params)) (go_keep) (fail)
      go_wp2_with fail
      exact HE.out
 ·have hk0 : (t.k == 3) = false := by simpa using hk
  have hk1 : (t.k != 3) = true := by simpa using hk
  have HE := hid (HARG.out (fun hh => hk hh.1) WA HBA.out)
  go_wp2_with fail
  exact HE.out
end Go.Proofs.YtiekbhlnnmnklaaGreat
namespace Go.Proofs.YtiekbhlnnmnklaaGreat
open Go.RowKit Go.Shelf Go.Maps Lvl Trm Env
namespace Env
noncomputable def tyAns (L : List Ent) (t : Tm) : Tm × Int := match ofO L t with
 | none => (zeroT,ofE L t)
 | some p => levelsAns p.2.1.ty t.ls
theorem ofE_zero {L : List Ent} {t : Tm} (h : ofE L t = 0) : t.k = 3 ∧ t.may = true ∧ ∃ p,lookE L (key t.s) = some p ∧ ofO L t = some p ∧ (t.ls.length : Int) = p.2.1.params := by
 have h0 := h
 unfold ofE at h
 split at h
 ·rename_i h1
  cases hl : lookE L (key t.s) with
  | none => rw [hl] at h; simp at h
  | some p =>
    rw [hl] at h
    simp only at h
    split at h
    ·rename_i h2
     exact ⟨h1.1,h1.2,p,rfl,by unfold ofO; rw [if_pos h0,hl],h2⟩
    ·simp at h
 ·simp at h
theorem ofO_none {L : List Ent} {t : Tm} (h : ofE L t ≠ 0) : ofO L t = none := by unfold ofO; rw [if_neg h]
def TAns (a : Tm × Int) (w : World) (y : Ending) (w' : World) : Prop := ∃ h',y = .returned (.tuple #[a.1.val h',.int .i64 a.2]) ∧ a.1.In w'.heap.size w' h' ∧ Below w.heap.size w w'
theorem levels_made (t : Tm) (L : List Lv) : (levelsAns t L).1 = zeroT ∨ (levelsAns t L).1.may = true := by
 unfold levelsAns ansT
 split
 ·exact Or.inl rfl
 split
 ·exact Or.inl rfl
 split
 ·rename_i h; exact Or.inr h
 ·exact Or.inl rfl
theorem putT_cell {w : World} {X b i : Nat} {u : Value} (h : w.cell? ⟨b,i,none⟩ = some u) (hne : b ≠ X) (v0 v1 v2 v3 v4 : Value) : (putT w X v0 v1 v2 v3 v4).cell? ⟨b,i,none⟩ = some u := by
 have hn : ∀ j : Nat,(⟨b,i,none⟩ : Addr) ≠ ⟨X,j,none⟩ := fun j a => by injection a with a1 _ _; exact hne a1
 unfold putT
 rw [World.cell?_setCell_other _ _ _ _ (fun a => hn _ (by first | exact a | exact a.symm)),World.cell?_setCell_other _ _ _ _ (fun a => hn _ (by first | exact a | exact a.symm)),World.cell?_setCell_other _ _ _ _ (fun a => hn _ (by first | exact a | exact a.symm)),World.cell?_setCell_other _ _ _ _ (fun a => hn _ (by first | exact a | exact a.symm)),World.cell?_setCell_other _ _ _ _ (fun a => hn _ (by first | exact a | exact a.symm))]
 exact h
theorem made_turn {X : Nat} {w w' : World} (hX : w.heap[X]? = some (.cells #[.int .u8 0,.int .i64 0,.string no,.slice none 0 0,.slice none 0 0] 27)) (hr : Ran X w w') {t : Tm} {h : Hd} (hm : t = zeroT ∨ t.may = true) (hi : t.In w.heap.size w h) : t.In w'.heap.size w' h := by
 rcases hm with rfl | hm
 ·obtain ⟨h1,h2,h3,h4⟩ := Tm.In_iff.1 hi
  refine Tm.In_iff.2 ⟨h1,?_,Low.mono h3 hr.size,trivial⟩
  exact ⟨fun k hk => absurd hk (by simp [zeroT,Tm.ls])⟩
 ·exact Tm.In.mono hr.size _ _ (zero_firm hX (Nat.le_refl _) hr t h 1 (OkMay.start hm) hi)
end Env
theorem type_any {B : Nat} {w : World} {e : Nat} {L : List Ent} {mo : Option Nat} {v : Value} (h : EnvB B w e L mo v) (t : Tm) (hd : Hd) (hin : t.In w.heap.size w hd) (hl : t.ls.length ≤ 1000000) (hc : t.ls.length ≤ hd.lc) :
 Calls Tryz.prog 25 #[.pointer (some ⟨e,0,none⟩),t.val hd] w (TAns (tyAns L t) w) := by
 obtain ⟨WB,hWB⟩ : ∃ WB,WB = (w.alloc (t.box hd)).alloc (.cells #[.int .u8 0,.int .i64 0,.string no,.slice none 0 0,.slice none 0 0] 27) := ⟨_,rfl⟩
 have HBB := hid (show Below w.heap.size w WB from hWB ▸ below_two _ _ _)
 have HBX := hid (show WB.heap[w.heap.size]? = some (t.box hd) from hWB ▸ new1of2 _ _ _)
 have HBA := hid (show WB.heap[w.heap.size + 1]? = some (.cells #[.int .u8 0,.int .i64 0,.string no,.slice none 0 0,.slice none 0 0] 27) from hWB ▸ new2 _ _ _)
 have HOF := hid (fun (W : World) (hW : Below w.heap.size w W) => of_any (h.below hW) t hd (carry hin hW) (by have := hin.fit.s; unfold maxLen; exact this))
 have HENV := hid h
 have HIN := hid hin
 by_cases h0 : ofE L t = 0
 ·obtain ⟨hk,hm,p,hlk,hO,hpar⟩ := ofE_zero h0
  have hA : tyAns L t = levelsAns p.2.1.ty t.ls := by unfold tyAns; rw [hO]
  have HOF2 := hid (fun (W : World) (hW : Below w.heap.size w W) => (show Calls Tryz.prog 63 #[.pointer (some ⟨e,0,none⟩),t.val hd] W (fun y w' => y = .returned (.tuple #[.pointer (some ⟨p.1,0,none⟩),.int .i64 0]) ∧ Below W.heap.size W w') from by have := HOF.out W hW; unfold OfPost at this; rw [hO,h0] at this; exact this))
  have hp := (lookE_some hlk).1
  have HP := hid (fun (W : World) (hW : Below w.heap.size w W) => ((h.below hW).info p hp).1)
  have HLV := hid (fun (W : World) (hW : Below w.heap.size w W) => Levels_any p.2.1.ty p.2.2.ty t.ls hd.lo hd.lc W (((h.below hW).firm p hp).ty.here) (Tm.In_iff.1 (carry hin hW)).2.1 (Tm.In_iff.1 (carry hin hW)).2.2.1 hl hc)
  have HPN : Hid (p.1 ≠ w.heap.size + 1) := hid (by have := (HP.out w (Below.refl _ _)).lt; omega)
  have HMD := hid (levels_made p.2.1.ty t.ls)
  rw [hA]
  obtain ⟨a,ha⟩ : ∃ a,a = levelsAns p.2.1.ty t.ls := ⟨_,rfl⟩
  rw [← ha] at HLV HMD ⊢
  clear hO hA h hin hl hc HOF h0 ha hk hm hlk hpar hp
  obtain ⟨a1,a2⟩ := a
  unfold Tm.val Tm.vals at *
  go_enter Tryz.func25,Tryz.ntmps25
  unfold Tm.box Tm.vals no at hWB
  go_wp2_with fail
  rw [← hWB]
  clear hWB
  refine (HOF2.out WB HBB.out).mono ?_
  rintro y w1 ⟨rfl,b1⟩
  have hA1 := Lvl.keep b1 HBA.out
  have HB1 := hid (Trm.go HBB.out b1)
  have HX1 := hid (Lvl.keep b1 HBX.out)
  have HI1 := hid (HP.out w1 HB1.out)
  obtain ⟨x0,x1,x2,x3,x4⟩ := Tm.cells HX1.out
  have HA1 := hid hA1
  have c3 : w1.cell? ⟨p.1,3,none⟩ = some (.int .u8 p.2.1.ty.k) := HI1.out.cell 3
  have c4 : w1.cell? ⟨p.1,4,none⟩ = some (.int .i64 p.2.1.ty.n) := HI1.out.cell 4
  have c5 : w1.cell? ⟨p.1,5,none⟩ = some (.string p.2.1.ty.s) := HI1.out.cell 5
  have c6 : w1.cell? ⟨p.1,6,none⟩ = some (.slice p.2.2.ty.lo p.2.1.ty.ls.length p.2.2.ty.lc) := HI1.out.cell 6
  have c7 : w1.cell? ⟨p.1,7,none⟩ = some (.slice p.2.2.ty.to p.2.1.ty.ts.length p.2.2.ty.tc) := HI1.out.cell 7
  clear hA1 b1 HOF2
  go_wp2_with fail
  have HBD := hid (show Below w.heap.size w w1.drew from HB1.out.drew)
  have HAD := hid (show w1.drew.heap[w.heap.size + 1]? = _ from HA1.out)
  have HXD := hid (show w1.drew.heap[w.heap.size]? = some (t.box hd) from HX1.out)
  refine wp_region_held_drew (S := fun w' => w'.cell? ⟨w.heap.size,3,none⟩ = some (.slice hd.lo t.ls.length hd.lc) ∧ w'.cell? ⟨p.1,3,none⟩ = some (.int .u8 p.2.1.ty.k) ∧ w'.cell? ⟨p.1,4,none⟩ = some (.int .i64 p.2.1.ty.n) ∧ w'.cell? ⟨p.1,5,none⟩ = some (.string p.2.1.ty.s) ∧ w'.cell? ⟨p.1,6,none⟩ = some (.slice p.2.2.ty.lo p.2.1.ty.ls.length p.2.2.ty.lc) ∧ w'.cell? ⟨p.1,7,none⟩ = some (.slice p.2.2.ty.to p.2.1.ty.ts.length p.2.2.ty.tc)) (by kernel_rfl) (⟨x3,c3,c4,c5,c6,c7⟩) (fun hHeld => ?_)
  refine wpAnyH_take (i := 0) (v := ?vty0) rfl (by kernel_rfl) (by kernel_rfl) (by kernel_rfl) (fun _ _ _ h => h) (Or.inl ⟨by rfl,?hyty0⟩) (by assumption) ?restty0
  case hyty0 => (intro w hSw; (try dsimp only at hSw); go_simp <;> with_reducible rfl)
  try simp only [zqT,zqZ,Act.put,zqB,zq0,zq1]
  refine wpAnyH_take (i := 1) (v := ?vty1) rfl (by kernel_rfl) (by kernel_rfl) (by kernel_rfl) (fun _ _ _ h => h) (Or.inl ⟨by rfl,?hyty1⟩) (by assumption) ?restty1
  case hyty1 => (intro w hSw; (try dsimp only at hSw); go_simp <;> with_reducible rfl)
  try simp only [zqT,zqS,zqZ,Act.put,zqB,zq0,zq1]
  refine wpAnyH_take (i := 2) (v := ?vty2) rfl (by kernel_rfl) (by kernel_rfl) (by kernel_rfl) (fun _ _ _ h => h) (Or.inl ⟨by rfl,?hyty2⟩) (by assumption) ?restty2
  case hyty2 => (intro w hSw; (try dsimp only at hSw); go_simp <;> with_reducible rfl)
  try simp only [zqT,zqS,zqZ,Act.put,zqB,zq0,zq1]
  refine wpAnyH_take (i := 3) (v := ?vty3) rfl (by kernel_rfl) (by kernel_rfl) (by kernel_rfl) (fun _ _ _ h => h) (Or.inl ⟨by rfl,?hyty3⟩) (by assumption) ?restty3
  case hyty3 => (intro w hSw; (try dsimp only at hSw); go_simp <;> with_reducible rfl)
  try simp only [zqT,zqS,zqZ,Act.put,zqB,zq0,zq1]
  refine wpAnyH_take (i := 4) (v := ?vty4) rfl (by kernel_rfl) (by kernel_rfl) (by kernel_rfl) (fun _ _ _ h => h) (Or.inl ⟨by rfl,?hyty4⟩) (by assumption) ?restty4
  case hyty4 => (intro w hSw; (try dsimp only at hSw); go_simp <;> with_reducible rfl)
  try simp only [zqT,zqS,zqZ,Act.put,zqB,zq0,zq1]
  refine wpAnyH_take (i := 5) (v := ?vty5) rfl (by kernel_rfl) (by kernel_rfl) (by kernel_rfl) (fun _ _ _ h => h) (Or.inl ⟨by rfl,?hyty5⟩) (by assumption) ?restty5
  case hyty5 => (intro w hSw; (try dsimp only at hSw); go_simp <;> with_reducible rfl)
  try simp only [zqT,zqS,zqZ,Act.put,zqB,zq0,zq1]
  refine wpAnyH_ready (rs := [6]) (by kernel_rfl) (by simp) ?_
  refine AllReadyH.cons rfl (fun K hK => ?_) AllReadyH.nil
  go_simp
  refine (HLV.out w1.drew HBD.out).mono ?_
  rintro y w2 ⟨h',rfl,hi2,b2⟩
  have HI2 := hid hi2
  have HB2 := hid (Trm.go HBD.out b2)
  have HA2 := hid (Lvl.keep b2 HAD.out)
  have HX2 := hid (Lvl.keep b2 HXD.out)
  have HP2 := hid (HP.out w2 HB2.out)
  have HY2 := hid (show w2.cell? ⟨w.heap.size,3,none⟩ = some (.slice hd.lo t.ls.length hd.lc) from (Tm.cells HX2.out).c3)
  obtain ⟨q0,q1,q2,q3,q4⟩ := five_cells HA2.out
  obtain ⟨f0,f1,f2,f3,f4⟩ := five_free HA2.out
  clear hi2 b2
  refine hK.out _ _ (⟨HY2.out,HP2.out.cell 3,HP2.out.cell 4,HP2.out.cell 5,HP2.out.cell 6,HP2.out.cell 7⟩) (fun hHeld => ?_)
  clear hK K
  try simp only [zqT,zqS,zqZ,Act.put,zqB,zq0,zq1]
  refine wpAnyH_take (i := 7) (v := ?vty7) rfl (by kernel_rfl) (by kernel_rfl) (by kernel_rfl) (fun _ _ _ h => h) (Or.inl ⟨by rfl,?hyty7⟩) (by assumption) ?restty7
  case hyty7 => (intro w hSw; (try dsimp only at hSw); go_simp <;> with_reducible rfl)
  try simp only [zqT,zqS,zqZ,Act.put,zqB,zq0,zq1]
  refine wpAnyH_take (i := 8) (v := ?vty8) rfl (by kernel_rfl) (by kernel_rfl) (by kernel_rfl) (fun _ _ _ h => h) (Or.inl ⟨by rfl,?hyty8⟩) (by assumption) ?restty8
  case hyty8 => (intro w hSw; (try dsimp only at hSw); go_simp <;> with_reducible rfl)
  try simp only [zqT,zqS,zqZ,Act.put,zqB,zq0,zq1]
  refine wpAnyH_ready (rs := [9]) (by kernel_rfl) (by simp) ?_
  refine AllReadyH.cons rfl (fun K hK => ?_) AllReadyH.nil
  go_simp
  refine hK.out _ _ (⟨putT_cell HY2.out (by omega) _ _ _ _ _,putT_cell (HP2.out.cell 3) HPN.out _ _ _ _ _,putT_cell (HP2.out.cell 4) HPN.out _ _ _ _ _,putT_cell (HP2.out.cell 5) HPN.out _ _ _ _ _,putT_cell (HP2.out.cell 6) HPN.out _ _ _ _ _,putT_cell (HP2.out.cell 7) HPN.out _ _ _ _ _⟩) (fun hHeld => ?_)
  clear hK K
  try simp only [zqT,zqS,zqZ,Act.put,zqB,zq0,zq1]
  refine wpAnyH_take (i := 10) (v := ?vty10) rfl (by kernel_rfl) (by kernel_rfl) (by kernel_rfl) (fun _ _ _ h => h) (Or.inl ⟨by rfl,?hyty10⟩) (by assumption) ?restty10
  case hyty10 => (intro w hSw; (try dsimp only at hSw); go_simp <;> with_reducible rfl)
  try simp only [zqT,zqS,zqZ,Act.put,zqB,zq0,zq1]
  refine wpAnyH_done (by kernel_rfl) ?_ _
  have h5 := putT_self HA2.out (.int .u8 a1.k) (.int .i64 a1.n) (.string a1.s) (.slice h'.lo a1.ls.length h'.lc) (.slice h'.to a1.ts.length h'.tc)
  have b5 := putT_below HB2.out (by omega : w.heap.size ≤ w.heap.size + 1) (.int .u8 a1.k) (.int .i64 a1.n) (.string a1.s) (.slice h'.lo a1.ls.length h'.lc) (.slice h'.to a1.ts.length h'.tc)
  have r5 := putT_ran w2 (w.heap.size + 1) (.int .u8 a1.k) (.int .i64 a1.n) (.string a1.s) (.slice h'.lo a1.ls.length h'.lc) (.slice h'.to a1.ts.length h'.tc)
  have i5 := made_turn HA2.out r5 HMD.out HI2.out
  unfold putT at h5 b5 i5
  clear r5 hHeld
  generalize hW : ((((w2.setCell ⟨w.heap.size + 1,0,none⟩ (.int .u8 a1.k)).setCell ⟨w.heap.size + 1,1,none⟩ (.int .i64 a1.n)).setCell ⟨w.heap.size + 1,2,none⟩ (.string a1.s)).setCell ⟨w.heap.size + 1,3,none⟩ (.slice h'.lo a1.ls.length h'.lc)).setCell ⟨w.heap.size + 1,4,none⟩ (.slice h'.to a1.ts.length h'.tc) = W4 at h5 b5 i5 ⊢
  obtain ⟨e0,e1,e2,e3,e4⟩ := five_cells h5
  have HI5 := hid i5
  clear hW i5 q0 q1 q2 q3 q4 f0 f1 f2 f3 f4 x0 x1 x2 x3 x4 c3 c4 c5 c6 c7
  go_wp2_with fail
  exact bodyPost_ret (v := .tuple #[a1.val h',.int .i64 a2]) (by simp [results,Tryz.results25,go_sem,e0,e1,e2,e3,e4,Tm.val,Tm.vals]) rfl ⟨h',rfl,HI5.out,b5⟩
 ·have hO := ofO_none h0
  have hA : tyAns L t = (zeroT,ofE L t) := by unfold tyAns; rw [hO]
  have HOF2 := hid (fun (W : World) (hW : Below w.heap.size w W) => (show Calls Tryz.prog 63 #[.pointer (some ⟨e,0,none⟩),t.val hd] W (fun y w' => y = .returned (.tuple #[.pointer none,.int .i64 (ofE L t)]) ∧ Below W.heap.size W w') from by have := HOF.out W hW; unfold OfPost at this; rw [hO] at this; exact this))
  rw [hA]
  obtain ⟨z,hz⟩ : ∃ z,z = ofE L t := ⟨_,rfl⟩
  rw [← hz] at HOF2 h0 ⊢
  have hz1 : (z == 0) = false := by simpa using h0
  have hz2 : (z != 0) = true := by simpa using h0
  clear hO hA h hin hl hc HOF hz h0
  unfold Tm.val Tm.vals at *
  go_enter Tryz.func25,Tryz.ntmps25
  unfold Tm.box Tm.vals no at hWB
  go_wp2_with fail
  rw [← hWB]
  clear hWB
  refine (HOF2.out WB HBB.out).mono ?_
  rintro y w1 ⟨rfl,b1⟩
  have hA1 := Lvl.keep b1 HBA.out
  have HB1 := hid (Trm.go HBB.out b1)
  obtain ⟨a0,a1,a2,a3,a4⟩ := five_cells hA1
  obtain ⟨f0,f1,f2,f3,f4⟩ := five_free hA1
  have HA1 := hid hA1
  clear hA1 b1 HOF2
  go_wp2_with fail
  have h5 := putT_self HA1.out (.int .u8 0) (.int .i64 0) (.string no) (.slice none 0 0) (.slice none 0 0)
  have b5 := putT_below HB1.out (by omega : w.heap.size ≤ w.heap.size + 1) (.int .u8 0) (.int .i64 0) (.string no) (.slice none 0 0) (.slice none 0 0)
  unfold putT no at h5 b5
  generalize hW : ((((w1.setCell ⟨w.heap.size + 1,0,none⟩ (.int .u8 0)).setCell ⟨w.heap.size + 1,1,none⟩ (.int .i64 0)).setCell ⟨w.heap.size + 1,2,none⟩ (.string ⟨#[]⟩)).setCell ⟨w.heap.size + 1,3,none⟩ (.slice none 0 0)).setCell ⟨w.heap.size + 1,4,none⟩ (.slice none 0 0) = W4 at h5 b5 ⊢
  obtain ⟨e0,e1,e2,e3,e4⟩ := five_cells h5
  clear hW
  exact bodyPost_ret (v := .tuple #[zeroT.val ⟨none,0,none,0⟩,.int .i64 z]) (by simp [results,Tryz.results25,go_sem,e0,e1,e2,e3,e4,zeroT,Tm.val,Tm.vals,Tm.k,Tm.n,Tm.s,Tm.ls,Tm.ts,no]) rfl ⟨⟨none,0,none,0⟩,rfl,leaf_in (by decide) (by decide) (by decide) (by decide) (by decide),b5⟩
end Go.Proofs.YtiekbhlnnmnklaaGreat
