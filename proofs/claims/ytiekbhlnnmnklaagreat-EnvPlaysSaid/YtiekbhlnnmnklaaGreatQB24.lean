/-
 battenref07.below: has a term no parameter but the first n?
-/
import Derived.Lib.Hide
import Derived.Test.YtiekbhlnnmnklaaGreatQB23
import Derived.Test.YtiekbhlnnmnklaaGreatQB8
import Derived.Test.YtiekbhlnnmnklaaGreatQB9
import Derived.Test.YtiekbhlnnmnklaaGreatQB21
import Derived.Test.YtiekbhlnnmnklaaGreatQB6
import Derived.Laws.AppendOwnNone
open Go.Lib (hid)
set_option maxRecDepth 100000
set_option maxHeartbeats 32000000
namespace Go.Proofs.YtiekbhlnnmnklaaGreat
open Go.RowKit Go.Shelf Lvl Trm Env
namespace Env
theorem low_at {l : Lv} (h : l.may = true) {k : Nat} (hk : k < 4) : -1 ≤ l.at_ k := by
 have ho := (may_iff l).1 h
 unfold Lv.ok at ho
 obtain ⟨_,h0,h1,h2,h3⟩ := ho
 have h4 : k = 0 ∨ k = 1 ∨ k = 2 ∨ k = 3 := by omega
 rcases h4 with rfl | rfl | rfl | rfl
 ·show -1 ≤ l.p0; omega
 ·show -1 ≤ l.p1; omega
 ·show -1 ≤ l.p2; omega
 ·show -1 ≤ l.p3; omega
theorem belL_yes {l : Lv} (h : l.may = true) {n : Nat} (hall : ∀ k,n ≤ k → k < 4 → l.at_ k < 0) : belL n l = true := by
 unfold belL
 rw [List.all_eq_true]
 intro x hx
 obtain ⟨k,hk,rfl,hne⟩ := mem_ps_k hx
 have h1 := low_at h hk
 refine decide_eq_true ?_
 show (k : Int) < n
 by_cases hn : n ≤ k
 ·have := hall k hn hk
  omega
 ·omega
theorem belL_no {l : Lv} {n k : Nat} (hn : n ≤ k) (hk : k < 4) (h : 0 ≤ l.at_ k) : belL n l = false := by
 obtain ⟨h1,_,_⟩ := l.upto_mem k hk (by omega)
 unfold belL
 rw [List.all_eq_false]
 refine ⟨_,h1,?_⟩
 simp
 omega
theorem LAt.at_ {w : World} {b o : Nat} {l : Lv} (h : LAt w b o l) {k : Nat} (hk : k < 4) : w.cell? ⟨b,o + 1 + k,none⟩ = some (.int .i64 (l.at_ k)) := by
 obtain ⟨c0,c1,c2,c3,c4⟩ := h
 have h4 : k = 0 ∨ k = 1 ∨ k = 2 ∨ k = 3 := by omega
 rcases h4 with rfl | rfl | rfl | rfl
 ·exact c1
 ·exact c2
 ·exact c3
 ·exact c4
theorem belT_at {n : Nat} : ∀ {ts : List Tm} {k : Nat} (hk : k < ts.length),ts[k].bel n = false → belT n ts = false
 | [],k,hk,_ => by simp at hk
 | t :: r,0,_,h => by rw [belT]; simp at h; rw [h]; rfl
 | t :: r,k + 1,hk,h => by rw [belT,belT_at (ts := r) (k := k) (by simpa using hk) (by simpa using h),Bool.and_false]
theorem belT_all {n : Nat} : ∀ {ts : List Tm},(∀ k (hk : k < ts.length),ts[k].bel n = true) → belT n ts = true
 | [],_ => by rw [belT]
 | t :: r,h => by
   rw [belT,belT_all (ts := r) (fun k hk => by have := h (k + 1) (by simpa using hk); simpa using this)]
   have := h 0 (by simp)
   simp at this
   rw [this]; rfl
theorem bel_eq (n : Nat) (t : Tm) : t.bel n = (t.ls.all (belL n) && belT n t.ts) := by
 cases t with | mk k m s ls ts => rw [Tm.bel]; rfl
def BlRel (w : World) (o : Obj) (t : Tm) (n : Nat) (i : Value) (wr : World) : Prop := ∃ k : Nat,i = .int .i64 k ∧ k ≤ t.ls.length ∧ (∀ j (h : j < t.ls.length),j < k → belL n t.ls[j] = true) ∧ Kept w wr o
def BpRel (wr0 : World) (l : Lv) (n : Nat) (i : Value) (wr : World) : Prop := ∃ k : Nat,i = .int .i64 k ∧ n ≤ k ∧ k ≤ 4 ∧ (∀ j,n ≤ j → j < k → l.at_ j < 0) ∧ wr0 = wr
def BtRel (w : World) (o : Obj) (t : Tm) (n : Nat) (i : Value) (wr : World) : Prop := ∃ k : Nat,i = .int .i64 k ∧ k ≤ t.ts.length ∧ (∀ j (h : j < t.ts.length),j < k → t.ts[j].bel n = true) ∧ Kept w wr o
end Env
theorem bel7_any (n : Nat) (hn : n ≤ 4) (t : Tm) : ∀ (h : Hd) (d : Int) (w : World),OkMay t d → t.In w.heap.size w h →
 Calls Tryz.prog 111 #[t.val h,.int .i64 n] w fun e w' => e = .returned (.bool (t.bel n)) ∧ Below w.heap.size w w' := by
 induction t using Tm.ind with
 | h t ih =>
   intro h d w hok hin
   have hfit := hin.fit
   have hts := hfit.ts
   have hls := hfit.ls
   have HFEW : Hid (t.ls.length ≤ 9223372036854775807 ∧ t.ts.length ≤ 1000000) := hid (by have := node_few hok.node.1; omega)
   clear hfit hts hls
   have HLM := hid (node_lv hok.node.1)
   have HIN := hid hin
   have HIH := hid ih
   have HOK := hid hok
   obtain ⟨G,hG⟩ : ∃ G,G = t.bel n := ⟨_,rfl⟩
   rw [← hG]
   have HG := hid (hG.trans (bel_eq n t))
   clear hin ih hok hG
   have HN := hid hn
   unfold Tm.val Tm.vals
   go_enter Tryz.func111,Tryz.ntmps111
   go_wp2_with fail
   go_loopw [5] (fun i wr => BlRel w (t.box h) t n i wr) (fun i _ => t.ls.length - (intOf i).toNat)
   case atStart => exact ⟨0,rfl,by omega,fun j _ hj => by omega,Kept.start _ _⟩
   case round =>
    obtain ⟨k,rfl,hk,hall,hkept⟩ := hrel
    have HK := hid hkept
    have HALL := hid hall
    clear hkept hall
    obtain ⟨c0,c1,c2,c3,c4⟩ := Tm.cells HK.out.box
    by_cases hlt : k < t.ls.length
    ·obtain ⟨b,off,hao,hat⟩ := (HIN.out.levels.below HK.out.bel).place k hlt
     rw [hao] at c3
     have HAT := hid hat
     have HMY := hid (HLM.out _ (List.getElem_mem hlt))
     have HYE : Hid (belL n t.ls[k] = true → ∀ j (h : j < t.ls.length),j < k + 1 → belL n t.ls[j] = true) := hid (fun hh j hj hjk => by
      by_cases e : j = k
      ·subst e; exact hh
      ·exact HALL.out j hj (by omega))
     have HNO : Hid (belL n t.ls[k] = false → G = false) := hid (fun hh => by
      rw [HG.out,show t.ls.all (belL n) = false from by rw [List.all_eq_false]; exact ⟨_,List.getElem_mem hlt,by rw [hh]; simp⟩]
      rfl)
     obtain ⟨l,hl⟩ : ∃ l,l = t.ls[k] := ⟨_,rfl⟩
     rw [← hl] at HAT HMY HYE HNO
     clear hl hat
     have HLT := hid hlt
     have hwk : wrap64 ((k : Int) + 1) = (k : Int) + 1 := IntWalk.wrap64_in _ (by have := HFEW.out.1; have := HLT.out; omega)
     have hwk2 : IntKind.i64.wrap ((k : Int) + 1) = (k : Int) + 1 := IntWalk.i64_in _ (by have := HFEW.out.1; have := HLT.out; omega)
     obtain ⟨wA,hwA⟩ : ∃ x : World,x = wr := ⟨_,rfl⟩
     subst hwA
     go_upto_region 5 with fail
     go_loopw [6] (fun i wr' => BpRel wA l n i wr') (fun i _ => 4 - (intOf i).toNat)
     case atStart => exact ⟨n,rfl,by omega,HN.out,fun j _ hj => by omega,rfl⟩
     case round =>
      obtain ⟨m,rfl,hnm,hm,hall2,rfl⟩ := hrel
      have HALL2 := hid hall2
      clear hall2
      by_cases hm4 : m < 4
      ·have hc := LAt.at_ HAT.out hm4
       have HYE2 : Hid (l.at_ m < 0 → ∀ j,n ≤ j → j < m + 1 → l.at_ j < 0) := hid (fun hh j hj hjk => by
        by_cases e : j = m
        ·subst e; exact hh
        ·exact HALL2.out j hj (by omega))
       have HNO2 : Hid (0 ≤ l.at_ m → false = G) := hid (fun hh => (HNO.out (belL_no hnm hm4 hh)).symm)
       have hwm : wrap64 ((m : Int) + 1) = (m : Int) + 1 := IntWalk.wrap64_in _ (by omega)
       have hwm2 : IntKind.i64.wrap ((m : Int) + 1) = (m : Int) + 1 := IntWalk.i64_in _ (by omega)
       have HM4 := hid hm4
       have HNM := hid hnm
       generalize l.at_ m = z at hc HYE2 HNO2
       by_cases hz : 0 ≤ z
       ·have HE := hid (HNO2.out hz)
        go_wp2_with fail
        go_ret
        exact ⟨ret_bool HE.out,HK.out.bel⟩
       ·have HE := hid (HYE2.out (by omega))
        have hz2 : z < 0 := by omega
        go_wp2_with fail
        go_roundw
        case rel => exact ⟨m + 1,by first | rfl | (rw [hwm]; rfl),by have := HNM.out; omega,by have := HM4.out; omega,HE.out,rfl⟩
        case measure => first | exact less_step rfl HM4.out | exact less_step hwm HM4.out
      ·have HE := hid (HYE.out (belL_yes HMY.out (fun j hj hj4 => HALL2.out j hj (by omega))))
       go_wp2_with fail
       go_roundw
       case rel => exact ⟨k + 1,by first | rfl | (rw [hwk]; rfl),HLT.out,HE.out,HK.out⟩
       case measure => first | exact less_step rfl HLT.out | exact less_step hwk HLT.out
    ·have HE : Hid (t.ls.all (belL n) = true) := hid (by
      rw [List.all_eq_true]
      intro x hx
      obtain ⟨j,hj,rfl⟩ := List.getElem_of_mem hx
      exact HALL.out j hj (by omega))
     have HG2 : Hid (G = belT n t.ts) := hid (by rw [HG.out,HE.out]; rfl)
     clear HALL HG
     go_upto_region 10 with fail
     clear c0 c1 c2 c3 c4
     go_loopw [7] (fun i wr => BtRel w (t.box h) t n i wr) (fun i _ => t.ts.length - (intOf i).toNat)
     case atStart => exact ⟨0,rfl,by omega,fun j _ hj => by omega,HK.out⟩
     case round =>
      clear HK
      obtain ⟨j,rfl,hj,hall,hkept⟩ := hrel
      have HK := hid hkept
      have HALL := hid hall
      clear hkept hall
      obtain ⟨c0,c1,c2,c3,c4⟩ := Tm.cells HK.out.box
      by_cases hlt : j < t.ts.length
      ·obtain ⟨b,off,hao,hat⟩ := HIN.out.kid j hlt
       obtain ⟨hb,hd',⟨k0,k1,k2,k3,k4⟩,hin'⟩ := hat.below HK.out.bel
       rw [hao] at c4
       have HI := hid (Tm.In.mono HK.out.bel.size _ _ hin')
       have HX := hid (HIH.out _ (List.getElem_mem hlt) hd' (d + 1) wr (HOK.out.down _ (List.getElem_mem hlt)) HI.out)
       have HYE : Hid (t.ts[j].bel n = true → ∀ i (h : i < t.ts.length),i < j + 1 → t.ts[i].bel n = true) := hid (fun hh i hi hij => by
        by_cases e : i = j
        ·subst e; exact hh
        ·exact HALL.out i hi (by omega))
       have HNO : Hid (t.ts[j].bel n = false → G = false) := hid (fun hh => by rw [HG2.out,belT_at hlt hh])
       have hwk : wrap64 ((j : Int) + 1) = (j : Int) + 1 := IntWalk.wrap64_in _ (by have := HFEW.out.2; omega)
       have hwk2 : IntKind.i64.wrap ((j : Int) + 1) = (j : Int) + 1 := IntWalk.i64_in _ (by have := HFEW.out.2; omega)
       clear hat hin' hao
       generalize t.ts[j].bel n = Z at HX HYE HNO
       generalize t.ts[j] = x at k0 k1 k2 k3 k4 HX HI
       unfold Tm.val Tm.vals at HX
       have HLT := hid hlt
       cases Z
       ·have HE := hid (HNO.out rfl)
        go_wp2_with fail
        refine HX.out.mono ?_
        rintro e w5 ⟨rfl,b5⟩
        have HB5 := hid (Trm.go HK.out.bel b5)
        clear b5
        go_wp2_with fail
        go_ret
        exact ⟨ret_bool HE.out.symm,HB5.out⟩
       ·have HE := hid (HYE.out rfl)
        go_wp2_with fail
        refine HX.out.mono ?_
        rintro e w5 ⟨rfl,b5⟩
        have HK5 := hid (HK.out.step b5)
        clear b5
        go_wp2_with fail
        go_roundw
        case rel => exact ⟨j + 1,by first | rfl | (rw [hwk]; rfl),HLT.out,HE.out,HK5.out⟩
        case measure => first | exact less_step rfl HLT.out | exact less_step hwk HLT.out
      ·have HE : Hid (true = G) := hid (by rw [HG2.out]; exact (belT_all fun i hi => HALL.out i hi (by omega)).symm)
       go_wp2_with fail
       go_ret
       exact ⟨ret_bool HE.out,HK.out.bel⟩
end Go.Proofs.YtiekbhlnnmnklaaGreat
namespace Go.Proofs.YtiekbhlnnmnklaaGreat
open Go.RowKit Go.Shelf Go.Maps Go.Sort Lvl Trm
theorem Trm.infoS : (Tryz.prog.info? 9).map (fun i => (i.zero,i.size,i.bytes)) = some (some (.string ⟨#[]⟩),1,16) := by kernel_rfl
namespace Trm
theorem bl_iff : {x y : List UInt8} → (Op.bytesLess x y = true ↔ x < y)
 | [],[] => by simp [Op.bytesLess]
 | _ :: _,[] => by simp [Op.bytesLess]
 | [],_ :: _ => by simp [Op.bytesLess]
 | a :: x,b :: y => by
   have ih := bl_iff (x := x) (y := y)
   simp only [Op.bytesLess,List.cons_lt_cons_iff,Bool.or_eq_true,Bool.and_eq_true,decide_eq_true_eq,beq_iff_eq,ih]
def ins (s : List UInt8) : List (List UInt8) → List (List UInt8)
 | [] => [s]
 | a :: r => if a < s then a :: ins s r else if a = s then a :: r else s :: a :: r
theorem mem_ins {s x : List UInt8} : ∀ {l : List (List UInt8)},x ∈ ins s l ↔ x = s ∨ x ∈ l
 | [] => by simp [ins]
 | a :: r => by
   unfold ins
   by_cases h1 : a < s
   ·rw [if_pos h1]; simp only [List.mem_cons,mem_ins (l := r)]; constructor <;> (intro h; rcases h with h | h | h) <;> simp_all
   ·rw [if_neg h1]
    by_cases h2 : a = s
    ·rw [if_pos h2]; subst h2; simp
    ·rw [if_neg h2]; simp
theorem ins_len (s : List UInt8) : ∀ l : List (List UInt8),(ins s l).length ≤ l.length + 1
 | [] => by simp [ins]
 | a :: r => by
   have := ins_len s r
   unfold ins
   by_cases h3 : a < s
   ·rw [if_pos h3]; simp; omega
   ·rw [if_neg h3]; split <;> simp
def NR (w : World) (v : Value) (l : List (List UInt8)) : Prop :=
 (v = .slice none 0 0 ∧ l = []) ∨ ∃ g cap,v = .slice (some ⟨g,0,none⟩) l.length cap ∧ g < w.heap.size ∧ l.length ≤ cap ∧ cap ≤ maxLen ∧ ∀ k (hk : k < l.length),w.cell? ⟨g,k,none⟩ = some (.string ⟨l[k].toArray⟩)
theorem NR.carry {w w' : World} {v : Value} {l : List (List UInt8)} (h : NR w v l) (b : Below w.heap.size w w') : NR w' v l := by
 rcases h with h | ⟨g,cap,h1,h2,h3,h4,h5⟩
 ·exact Or.inl h
 ·exact Or.inr ⟨g,cap,h1,by have := b.size; omega,h3,h4,fun k hk => (b.cell (p := ⟨g,k,none⟩) h2).trans (h5 k hk)⟩
theorem NR.own {w : World} {base n : Nat} {v : Value} {l : List (List UInt8)} (hn : n = l.length) (h : w.ownsRow base 9 1 v n (l.map encStr)) : NR w v l := by
 subst hn
 have h0 := h
 obtain ⟨hl,⟨hv,hn0⟩ | ⟨g,cap,cur,rfl,hb,hg,hm,hmx,hs,ht⟩⟩ := h
 ·exact Or.inl ⟨hv,List.eq_nil_of_length_eq_zero hn0⟩
 ·have hgl : g < w.heap.size := (Array.getElem?_eq_some_iff.1 hg).1
  refine Or.inr ⟨g,cap,rfl,hgl,hm,hmx,fun k hk => ?_⟩
  rw [h0.cellAt k (by omega),List.getElem?_map,List.getElem?_eq_getElem hk]
  rfl
def WithPost (l : List (List UInt8)) (w : World) (e : Ending) (w' : World) : Prop := ∃ v',e = .returned v' ∧ NR w' v' l ∧ Below w.heap.size w w'
def WiRel (w : World) (s : List UInt8) (l : List (List UInt8)) (i : Value) (wr : World) : Prop :=
 ∃ j : Nat,i = .int .i64 j ∧ j ≤ l.length ∧ ins s l = l.take j ++ ins s (l.drop j) ∧ wr = w
theorem ins_step {s : List UInt8} {l : List (List UInt8)} {j : Nat} (h : j < l.length) (hls : l[j] < s) (hi : ins s l = l.take j ++ ins s (l.drop j)) : ins s l = l.take (j + 1) ++ ins s (l.drop (j + 1)) := by
 rw [hi,List.take_succ_eq_append_getElem h,List.drop_eq_getElem_cons h,ins,if_pos hls,List.append_assoc]; rfl
theorem ins_eq {s : List UInt8} {l : List (List UInt8)} {j : Nat} (h : j < l.length) (hls : l[j] = s) (hi : ins s l = l.take j ++ ins s (l.drop j)) : ins s l = l := by
 rw [hi,List.drop_eq_getElem_cons h,ins,if_neg (by rw [hls]; exact List.lt_irrefl s),if_pos hls,← List.drop_eq_getElem_cons h,List.take_append_drop]
theorem ins_here {s : List UInt8} {l : List (List UInt8)} {j : Nat} (h : j < l.length) (h1 : ¬ l[j] < s) (h2 : l[j] ≠ s) (hi : ins s l = l.take j ++ ins s (l.drop j)) : ins s l = l.take j ++ [s] ++ l.drop j := by
 rw [hi,List.drop_eq_getElem_cons h,ins,if_neg h1,if_neg h2]; simp
theorem ins_end {s : List UInt8} {l : List (List UInt8)} {j : Nat} (h : ¬ j < l.length) (hi : ins s l = l.take j ++ ins s (l.drop j)) : ins s l = l.take j ++ [s] ++ l.drop j := by
 rw [hi,List.drop_eq_nil_of_le (by omega),ins]; simp
theorem row_cells {w : World} {g o : Nat} {l : List (List UInt8)} (h : ∀ k (hk : k < l.length),w.cell? ⟨g,o + k,none⟩ = some (.string ⟨l[k].toArray⟩)) : ∀ (j : Nat) (u : Value),(l.map encStr)[j]? = some u → w.cell? ((⟨g,o,none⟩ : Addr).add j) = some u := by
 intro j u hj
 obtain ⟨hj1,hj2⟩ := List.getElem?_eq_some_iff.1 hj
 rw [List.length_map] at hj1
 rw [Addr.add_lit,h j hj1,← hj2,List.getElem_map]
theorem fin_row {w : World} {base n j : Nat} {v : Value} {l r : List (List UInt8)} {s : ByteArray} (hr : r = l.take j ++ [s.toList] ++ l.drop j) (hn : n = j + 1 + (l.length - j) ∧ j ≤ l.length)
 (h : w.ownsRow base 9 1 v n ((l.map encStr).take j ++ .string s :: (l.map encStr).drop j)) : NR w v r := by
 have hs : Value.string s = encStr s.toList := by
  show Value.string s = Value.string ⟨s.toList.toArray⟩
  rw [Lib.toList_data]
 refine NR.own (n := n) (base := base) ?_ ?_
 ·rw [hr,hn.1]
  simp only [List.length_append,List.length_take,List.length_drop,List.length_cons,List.length_nil]
  omega
 ·rw [hr,List.map_append,List.map_append,List.map_take,List.map_drop,List.map_cons,List.map_nil,← hs,List.append_assoc]
  exact h
theorem one_str (l : List (List UInt8)) : ∀ u ∈ l.map encStr,u.oneCell' = true := by
 intro u hu
 obtain ⟨x,_,rfl⟩ := List.mem_map.1 hu
 rfl
end Trm
theorem withN_any (l : List (List UInt8)) (s : ByteArray) (v : Value) (w : World) (hr : NR w v l) (hl : l.length ≤ 65536) :
 Calls Tryz.prog 132 #[v,.string s] w (WithPost (ins s.toList l) w) := by
 obtain ⟨i0,hi,hz0,hz1,hz2⟩ := info_parts infoS
 have HR := hid hr
 rcases hr with ⟨rfl,rfl⟩ | ⟨g,cap,rfl,hg,hc,hcm,hcl⟩
 ·go_enter Tryz.func132,Tryz.ntmps132
  go_wp2_with fail
  go_loopw [5] (fun i wr => i = .int .i64 0 ∧ wr = w) (fun _ _ => 0)
  case atStart => exact ⟨rfl,rfl⟩
  case round =>
   obtain ⟨rfl,hw⟩ := hrel
   subst hw
   go_wp2_with (at_builtin; first
    | refine wpList_append_own_none rfl _ _ 36 rfl wr.heap.size 9 i0 1 Tryz.underlying36 hi _ 0 [] rfl ⟨rfl,Or.inl ⟨rfl,rfl⟩⟩ rfl ?_
    | refine wpList_append_own _ rfl _ _ 36 rfl wr.heap.size 9 i0 _ 1 16 Tryz.underlying36 hi hz0 hz1 hz2 rfl (by decide) _ 0 [] rfl ⟨rfl,Or.inl ⟨rfl,rfl⟩⟩ ⟨wr.heap.size,0,none⟩ 1 1 [.string s] rfl rfl ?d1 ?d2 ?d3 ?d4 ?d5 ?_)
   case d1 => exact World.news_of_block (cs := #[.string s]) (t := 9) (fr := (0,0)) (World.alloc_heap_new wr _)
   case d2 => simp [Value.oneCell']
   case d3 => unfold maxLen; omega
   case d4 => omega
   case d5 => simp
   intro v2 w2 own2 g2 _
   have hb2 := hid (Below.trans (below_one wr _) (below_own (base := wr.heap.size) (v := .slice none 0 0) (n := 0) (xs := []) (e := 9) (size := 1) ⟨rfl,Or.inl ⟨rfl,rfl⟩⟩ g2 (by simp)))
   have hs2 := hb2.out.size
   clear g2
   go_wp2_with (at_builtin; refine wpList_append_own_none rfl _ _ 36 rfl wr.heap.size 9 i0 1 Tryz.underlying36 hi _ _ _ rfl own2 rfl ?_)
   have HF : Hid (NR w2 v2 (ins s.toList [])) := hid (fin_row (j := 0) (l := []) (n := 1) (base := wr.heap.size) rfl (by decide) own2)
   clear own2
   go_wp2_with fail
   go_ret
   exact ⟨v2,rfl,HF.out,hb2.out⟩
 ·have HCL := hid hcl
  have hcap : (l.length : Int) ≤ (cap : Int) := by omega
  clear hcl
  go_enter Tryz.func132,Tryz.ntmps132
  go_wp2_with fail
  go_loopw [5] (fun i wr => WiRel w s.toList l i wr) (fun i _ => l.length - (intOf i).toNat)
  case atStart => exact ⟨0,rfl,by omega,rfl,rfl⟩
  case round =>
   obtain ⟨j,rfl,hj,hins,hw⟩ := hrel
   subst hw
   have HINS := hid hins
   clear hins
   have hj0 : (0 : Int) ≤ (j : Int) := Int.natCast_nonneg _
   have hjc : (j : Int) ≤ (l.length : Int) := by omega
   by_cases hlt : j < l.length
   ·have hc0 := HCL.out j hlt
    have hj1 : (j : Int) < (l.length : Int) := by omega
    have ea : (⟨l[j].toArray⟩ : ByteArray).toList = l[j] := by rw [ByteArray.toList_eq]
    have HLT := hid hlt
    generalize (⟨l[j].toArray⟩ : ByteArray) = sa at hc0 ea
    by_cases hls : l[j] < s.toList
    ·have q : Op.bytesLess sa.toList s.toList = true := by rw [ea]; exact bl_iff.2 hls
     have HN := hid (ins_step hlt hls HINS.out)
     clear ea hls
     go_wp2_with fail
     go_roundw
     case rel => exact ⟨j + 1,by go_num,by omega,HN.out,rfl⟩
     case measure => simp [intOf]; omega
    ·have q : Op.bytesLess sa.toList s.toList = false := by
      rw [ea,Bool.eq_false_iff]; exact fun h => hls (bl_iff.1 h)
     by_cases heq : l[j] = s.toList
     ·have q2 : (sa.toList == s.toList) = true := by rw [ea]; exact beq_iff_eq.2 heq
      have HN := hid (ins_eq hlt heq HINS.out)
      clear ea hls heq
      go_wp2_with fail
      go_ret
      exact ⟨_,rfl,by rw [HN.out]; exact HR.out,Below.refl _ _⟩
     ·have q2 : (sa.toList == s.toList) = false := by rw [ea]; exact beq_eq_false_iff_ne.2 heq
      have HN := hid (ins_here hlt hls heq HINS.out)
      clear ea hls heq
      have hjcap : (j : Int) < (cap : Int) := by omega
      have hjcn : j < cap := by omega
      go_wp2_with (at_builtin; refine wpList_append_own _ rfl _ _ 36 rfl wr.heap.size 9 i0 _ 1 16 Tryz.underlying36 hi hz0 hz1 hz2 rfl (by decide) _ 0 [] rfl ⟨rfl,Or.inl ⟨rfl,rfl⟩⟩ ⟨g,0,none⟩ j cap ((l.take j).map encStr) rfl (by simp; omega) ?c1 (one_str _) ?c3 ?c4 ?c5 ?_)
      case c1 => exact row_cells (fun k hk => by rw [Nat.zero_add,List.getElem_take]; exact HCL.out k (by rw [List.length_take] at hk; omega))
      case c3 => unfold maxLen; omega
      case c4 => omega
      case c5 => exact Nat.le_refl _
      intro v1 w1 own1 g1 _
      have hb1 := hid (below_own (base := wr.heap.size) (v := .slice none 0 0) (n := 0) (xs := []) (e := 9) (size := 1) ⟨rfl,Or.inl ⟨rfl,rfl⟩⟩ g1 (Nat.le_refl _))
      have hs1 := hb1.out.size
      go_wp2_with (at_builtin; refine wpList_append_own _ rfl _ _ 36 rfl wr.heap.size 9 i0 _ 1 16 Tryz.underlying36 hi hz0 hz1 hz2 rfl (by decide) _ _ _ rfl (own1.alloc _) ⟨w1.heap.size,0,none⟩ 1 1 [.string s] rfl rfl ?d1 ?d2 ?d3 ?d4 ?d5 ?_)
      case d1 => exact World.news_of_block (cs := #[.string s]) (t := 9) (fr := (0,0)) (World.alloc_heap_new w1 _)
      case d2 => simp [Value.oneCell']
      case d3 => unfold maxLen; omega
      case d4 => omega
      case d5 => simp; omega
      intro v2 w2 own2 g2 _
      have hb2 := hid (Below.trans hb1.out (Below.trans (Below.mono (below_one w1 _) (by omega)) (below_own (own1.alloc _) g2 (by simp; omega))))
      have hs2 := hb2.out.size
      clear g1 g2 own1
      go_wp2_with (at_builtin; refine wpList_append_own _ rfl _ _ 36 rfl wr.heap.size 9 i0 _ 1 16 Tryz.underlying36 hi hz0 hz1 hz2 rfl (by decide) _ _ _ rfl own2 ⟨g,j,none⟩ (l.length - j) (cap - j) ((l.drop j).map encStr) rfl ?e0 ?e1 (one_str _) ?e3 ?e4 ?e5 ?_)
      case e0 => simp <;> omega
      case e1 => exact row_cells (fun k hk => by rw [List.getElem_drop]; exact (hb2.out.cell (p := ⟨g,j + k,none⟩) hg).trans (HCL.out (j + k) (by rw [List.length_drop] at hk; omega)))
      case e3 => unfold maxLen; omega
      case e4 => omega
      case e5 => omega
      intro v3 w3 own3 g3 _
      have hb3 := hid (Below.trans hb2.out (below_own own2 g3 (by omega)))
      have HF : Hid (NR w3 v3 (ins s.toList l)) := hid (fin_row HN.out (by omega) own3)
      clear own3 own2 g3
      go_wp2_with fail
      go_ret
      exact ⟨v3,rfl,HF.out,hb3.out⟩
   ·have HN := hid (ins_end hlt HINS.out)
    by_cases hjcn : j < cap
    ·have hjcap : (j : Int) < (cap : Int) := by omega
     go_wp2_with (at_builtin; refine wpList_append_own _ rfl _ _ 36 rfl wr.heap.size 9 i0 _ 1 16 Tryz.underlying36 hi hz0 hz1 hz2 rfl (by decide) _ 0 [] rfl ⟨rfl,Or.inl ⟨rfl,rfl⟩⟩ ⟨g,0,none⟩ j cap ((l.take j).map encStr) rfl (by simp; omega) ?c1 (one_str _) ?c3 ?c4 ?c5 ?_)
     case c1 => exact row_cells (fun k hk => by rw [Nat.zero_add,List.getElem_take]; exact HCL.out k (by rw [List.length_take] at hk; omega))
     case c3 => unfold maxLen; omega
     case c4 => omega
     case c5 => exact Nat.le_refl _
     intro v1 w1 own1 g1 _
     have hb1 := hid (below_own (base := wr.heap.size) (v := .slice none 0 0) (n := 0) (xs := []) (e := 9) (size := 1) ⟨rfl,Or.inl ⟨rfl,rfl⟩⟩ g1 (Nat.le_refl _))
     have hs1 := hb1.out.size
     go_wp2_with (at_builtin; refine wpList_append_own _ rfl _ _ 36 rfl wr.heap.size 9 i0 _ 1 16 Tryz.underlying36 hi hz0 hz1 hz2 rfl (by decide) _ _ _ rfl (own1.alloc _) ⟨w1.heap.size,0,none⟩ 1 1 [.string s] rfl rfl ?d1 ?d2 ?d3 ?d4 ?d5 ?_)
     case d1 => exact World.news_of_block (cs := #[.string s]) (t := 9) (fr := (0,0)) (World.alloc_heap_new w1 _)
     case d2 => simp [Value.oneCell']
     case d3 => unfold maxLen; omega
     case d4 => omega
     case d5 => simp; omega
     intro v2 w2 own2 g2 _
     have hb2 := hid (Below.trans hb1.out (Below.trans (Below.mono (below_one w1 _) (by omega)) (below_own (own1.alloc _) g2 (by simp; omega))))
     have hs2 := hb2.out.size
     clear g1 g2 own1
     go_wp2_with (at_builtin; refine wpList_append_own _ rfl _ _ 36 rfl wr.heap.size 9 i0 _ 1 16 Tryz.underlying36 hi hz0 hz1 hz2 rfl (by decide) _ _ _ rfl own2 ⟨g,j,none⟩ (l.length - j) (cap - j) ((l.drop j).map encStr) rfl ?e0 ?e1 (one_str _) ?e3 ?e4 ?e5 ?_)
     case e0 => simp <;> omega
     case e1 => exact row_cells (fun k hk => by rw [List.getElem_drop]; exact (hb2.out.cell (p := ⟨g,j + k,none⟩) hg).trans (HCL.out (j + k) (by rw [List.length_drop] at hk; omega)))
     case e3 => unfold maxLen; omega
     case e4 => omega
     case e5 => omega
     intro v3 w3 own3 g3 _
     have hb3 := hid (Below.trans hb2.out (below_own own2 g3 (by omega)))
     have HF : Hid (NR w3 v3 (ins s.toList l)) := hid (fin_row HN.out (by omega) own3)
     clear own3 own2 g3
     go_wp2_with fail
     go_ret
     exact ⟨v3,rfl,HF.out,hb3.out⟩
    ·have hjcap : (cap : Int) = (j : Int) := by omega
     go_wp2_with (at_builtin; refine wpList_append_own _ rfl _ _ 36 rfl wr.heap.size 9 i0 _ 1 16 Tryz.underlying36 hi hz0 hz1 hz2 rfl (by decide) _ 0 [] rfl ⟨rfl,Or.inl ⟨rfl,rfl⟩⟩ ⟨g,0,none⟩ j cap ((l.take j).map encStr) rfl (by simp; omega) ?c1 (one_str _) ?c3 ?c4 ?c5 ?_)
     case c1 => exact row_cells (fun k hk => by rw [Nat.zero_add,List.getElem_take]; exact HCL.out k (by rw [List.length_take] at hk; omega))
     case c3 => unfold maxLen; omega
     case c4 => omega
     case c5 => exact Nat.le_refl _
     intro v1 w1 own1 g1 _
     have hb1 := hid (below_own (base := wr.heap.size) (v := .slice none 0 0) (n := 0) (xs := []) (e := 9) (size := 1) ⟨rfl,Or.inl ⟨rfl,rfl⟩⟩ g1 (Nat.le_refl _))
     have hs1 := hb1.out.size
     go_wp2_with (at_builtin; refine wpList_append_own _ rfl _ _ 36 rfl wr.heap.size 9 i0 _ 1 16 Tryz.underlying36 hi hz0 hz1 hz2 rfl (by decide) _ _ _ rfl (own1.alloc _) ⟨w1.heap.size,0,none⟩ 1 1 [.string s] rfl rfl ?d1 ?d2 ?d3 ?d4 ?d5 ?_)
     case d1 => exact World.news_of_block (cs := #[.string s]) (t := 9) (fr := (0,0)) (World.alloc_heap_new w1 _)
     case d2 => simp [Value.oneCell']
     case d3 => unfold maxLen; omega
     case d4 => omega
     case d5 => simp; omega
     intro v2 w2 own2 g2 _
     have hb2 := hid (Below.trans hb1.out (Below.trans (Below.mono (below_one w1 _) (by omega)) (below_own (own1.alloc _) g2 (by simp; omega))))
     have hs2 := hb2.out.size
     clear g1 g2 own1
     go_wp2_with (at_builtin; refine wpList_append_own _ rfl _ _ 36 rfl wr.heap.size 9 i0 _ 1 16 Tryz.underlying36 hi hz0 hz1 hz2 rfl (by decide) _ _ _ rfl own2 ⟨g,0,none⟩ (l.length - j) (cap - j) ((l.drop j).map encStr) rfl ?e0 ?e1 (one_str _) ?e3 ?e4 ?e5 ?_)
     case e0 => simp <;> omega
     case e1 => exact fun k u hk => by rw [List.drop_eq_nil_of_le (by omega)] at hk; simp at hk
     case e3 => unfold maxLen; omega
     case e4 => omega
     case e5 => omega
     intro v3 w3 own3 g3 _
     have hb3 := hid (Below.trans hb2.out (below_own own2 g3 (by omega)))
     have HF : Hid (NR w3 v3 (ins s.toList l)) := hid (fin_row HN.out (by omega) own3)
     clear own3 own2 g3
     go_wp2_with fail
     go_ret
     exact ⟨v3,rfl,HF.out,hb3.out⟩
end Go.Proofs.YtiekbhlnnmnklaaGreat
namespace Go.Proofs.YtiekbhlnnmnklaaGreat
open Go.RowKit Go.Shelf Go.Maps Go.Sort Lvl Trm
namespace Trm
def addN (ns l : List (List UInt8)) : List (List UInt8) := ns.foldl (fun l x => ins x l) l
theorem addN_len : ∀ ns l : List (List UInt8),(addN ns l).length ≤ l.length + ns.length
 | [],l => by simp [addN]
 | a :: r,l => by
   have h1 := addN_len r (ins a l)
   have h2 := ins_len a l
   show (addN r (ins a l)).length ≤ _
   simp only [List.length_cons]
   omega
theorem addN_mem {x : List UInt8} : ∀ {ns l : List (List UInt8)},x ∈ addN ns l ↔ x ∈ ns ∨ x ∈ l
 | [],l => by simp [addN]
 | a :: r,l => by
   show x ∈ addN r (ins a l) ↔ _
   rw [addN_mem (ns := r),mem_ins,List.mem_cons]
   exact ⟨fun h => by
    rcases h with h | h | h
    ·exact Or.inl (Or.inr h)
    ·exact Or.inl (Or.inl h)
    ·exact Or.inr h,fun h => by
    rcases h with (h | h) | h
    ·exact Or.inr (Or.inl h)
    ·exact Or.inl h
    ·exact Or.inr (Or.inr h)⟩
theorem addN_append (a b l : List (List UInt8)) : addN (a ++ b) l = addN b (addN a l) := by simp [addN,List.foldl_append]
theorem nms_few {t : Tm} (hm : t.may = true) : t.nms.length ≤ 65536 := by
 have h1 := nms_size t
 have h3 := count_ge t
 unfold Tm.count at h3
 rw [if_pos hm] at h3
 omega
def NmRel (w : World) (o : Obj) (ts : List Tm) (G : List (List UInt8)) (v i : Value) (wr : World) : Prop :=
 ∃ (j : Nat) (l : List (List UInt8)),i = .int .i64 j ∧ j ≤ ts.length ∧ NR wr v l ∧ l.length + (nmsL (ts.drop j)).length ≤ 65536 ∧ addN (nmsL (ts.drop j)) l = G ∧ Kept w wr o
theorem nmsL_drop {ts : List Tm} {k : Nat} (h : k < ts.length) : nmsL (ts.drop k) = ts[k].nms ++ nmsL (ts.drop (k + 1)) := by
 rw [drop_get h,nmsL]
end Trm
theorem rnames_any (t : Tm) : ∀ (h : Hd) (v : Value) (l : List (List UInt8)) (w : World),NR w v l → l.length + t.nms.length ≤ 65536 → t.In w.heap.size w h →
 Calls Tryz.prog 81 #[v,t.val h] w (WithPost (addN t.nms l) w) := by
 induction t using Tm.ind with
 | h t ih =>
   intro h v l w hr hn hin
   have hfit := hin.fit
   have hts := hfit.ts
   clear hfit
   have HIN := hid hin
   have HIH := hid ih
   have HR := hid (NR.carry hr (below_one w (t.box h)))
   have HN := hid hn
   obtain ⟨G,hG⟩ : ∃ G,G = addN t.nms l := ⟨_,rfl⟩
   rw [← hG]
   have HG := hid hG
   clear hin ih hr hn hG
   unfold Tm.val Tm.vals
   by_cases hs : t.s.size = 0
   ·have q : t.s.toList.isEmpty = true := by rw [Lib.toList_data,List.isEmpty_iff]; exact List.eq_nil_of_length_eq_zero hs
    have e1 : t.nms = nmsL t.ts := by rw [Tm.nms_eq]; unfold oneN; rw [if_pos hs]; rfl
    have HG2 : Hid (addN (nmsL (t.ts.drop 0)) l = G) := hid (by rw [HG.out,e1]; rfl)
    have HN2 : Hid (l.length + (nmsL (t.ts.drop 0)).length ≤ 65536) := hid (by have := HN.out; rw [e1] at this; exact this)
    clear e1 hs HG HN
    go_enter Tryz.func81,Tryz.ntmps81
    go_wp2_with fail
    go_loopw [0,5] (fun v i wr => NmRel w (t.box h) t.ts G v i wr) (fun _ i _ => t.ts.length - (intOf i).toNat)
    case atStart => exact ⟨0,l,rfl,by omega,HR.out,HN2.out,HG2.out,Kept.start _ _⟩
    case round =>
     obtain ⟨k,lk,rfl,hk,hrk,hnk,hGk,hkept⟩ := hrel
     have HK := hid hkept
     have HGk := hid hGk
     have HRk := hid hrk
     have HNk := hid hnk
     clear hkept hGk hrk hnk
     obtain ⟨c0,c1,c2,c3,c4⟩ := Tm.cells HK.out.box
     by_cases hlt : k < t.ts.length
     ·obtain ⟨b,off,hao,hat⟩ := HIN.out.kid k hlt
      obtain ⟨hb,hd',⟨k0,k1,k2,k3,k4⟩,hin'⟩ := hat.below HK.out.bel
      rw [hao] at c4
      have HX := hid (HIH.out _ (List.getElem_mem hlt) hd')
      have HI := hid (Tm.In.mono HK.out.bel.size _ _ hin')
      have HG3 : Hid (addN (nmsL (t.ts.drop (k + 1))) (addN t.ts[k].nms lk) = G) := hid (by rw [← addN_append,← nmsL_drop hlt]; exact HGk.out)
      have HN3 : Hid (lk.length + t.ts[k].nms.length ≤ 65536 ∧ (addN t.ts[k].nms lk).length + (nmsL (t.ts.drop (k + 1))).length ≤ 65536) := hid (by
       have h1 := HNk.out
       rw [nmsL_drop hlt,List.length_append] at h1
       have h2 := addN_len t.ts[k].nms lk
       constructor <;> omega)
      clear hat hin' hao HGk HNk
      generalize t.ts[k] = x at k0 k1 k2 k3 k4 HX HI HG3 HN3
      unfold Tm.val Tm.vals at HX
      generalize x.nms = xn at HX HG3 HN3
      go_wp2_with fail
      refine (HX.out _ _ _ HRk.out HN3.out.1 HI.out).mono ?_
      rintro e w5 ⟨v5,rfl,hr5,b5⟩
      have HR5 := hid hr5
      have HK5 := hid (HK.out.step b5)
      clear b5 hr5 k0 k1 k2 k3 k4
      go_wp2_with fail
      go_roundw
      case rel => exact ⟨k + 1,_,by go_num,by omega,HR5.out,HN3.out.2,HG3.out,HK5.out⟩
      case measure => simp [intOf]; omega
     ·have HE : Hid (lk = G) := by
       have := HGk.out
       rw [List.drop_eq_nil_of_le (by omega),nmsL] at this
       exact this
      go_wp2_with fail
      go_ret
      exact ⟨_,rfl,by rw [← HE.out]; exact HRk.out,HK.out.bel⟩
   ·have q : t.s.toList.isEmpty = false := by
     rw [Lib.toList_data,Bool.eq_false_iff,Ne,List.isEmpty_iff]
     exact fun hh => hs (show t.s.data.toList.length = 0 by rw [hh]; rfl)
    have e1 : t.nms = t.s.toList :: nmsL t.ts := by rw [Tm.nms_eq]; unfold oneN; rw [if_neg hs,← Lib.toList_data]; rfl
    have HG2 : Hid (addN (nmsL (t.ts.drop 0)) (ins t.s.toList l) = G) := hid (by rw [HG.out,e1]; rfl)
    have HN2 : Hid ((ins t.s.toList l).length + (nmsL (t.ts.drop 0)).length ≤ 65536) := hid (by
     have h1 := HN.out
     have h2 := ins_len t.s.toList l
     rw [e1,List.length_cons] at h1
     show _ + (nmsL t.ts).length ≤ _
     omega)
    have HL : Hid (l.length ≤ 65536) := hid (by have := HN.out; omega)
    have HKS := hid (Kept.start w (t.box h))
    obtain ⟨c0,c1,c2,c3,c4⟩ := Tm.cells HKS.out.box
    clear e1 hs HG HN
    go_enter Tryz.func81,Tryz.ntmps81
    go_wp2_with fail
    refine (withN_any l t.s v _ HR.out HL.out).mono ?_
    rintro e w1 ⟨v1,rfl,hr1,b1⟩
    have HR1 := hid hr1
    have HK1 := hid (HKS.out.step b1)
    clear b1 c0 c1 c2 c3 c4 hr1 HKS HR
    obtain ⟨c0,c1,c2,c3,c4⟩ := Tm.cells HK1.out.box
    go_wp2_with fail
    clear c0 c1 c2 c3 c4
    go_loopw [0,5] (fun v i wr => NmRel w (t.box h) t.ts G v i wr) (fun _ i _ => t.ts.length - (intOf i).toNat)
    case atStart => exact ⟨0,_,rfl,by omega,HR1.out,HN2.out,HG2.out,HK1.out⟩
    case round =>
     obtain ⟨k,lk,rfl,hk,hrk,hnk,hGk,hkept⟩ := hrel
     have HK := hid hkept
     have HGk := hid hGk
     have HRk := hid hrk
     have HNk := hid hnk
     clear hkept hGk hrk hnk
     obtain ⟨c0,c1,c2,c3,c4⟩ := Tm.cells HK.out.box
     by_cases hlt : k < t.ts.length
     ·obtain ⟨b,off,hao,hat⟩ := HIN.out.kid k hlt
      obtain ⟨hb,hd',⟨k0,k1,k2,k3,k4⟩,hin'⟩ := hat.below HK.out.bel
      rw [hao] at c4
      have HX := hid (HIH.out _ (List.getElem_mem hlt) hd')
      have HI := hid (Tm.In.mono HK.out.bel.size _ _ hin')
      have HG3 : Hid (addN (nmsL (t.ts.drop (k + 1))) (addN t.ts[k].nms lk) = G) := hid (by rw [← addN_append,← nmsL_drop hlt]; exact HGk.out)
      have HN3 : Hid (lk.length + t.ts[k].nms.length ≤ 65536 ∧ (addN t.ts[k].nms lk).length + (nmsL (t.ts.drop (k + 1))).length ≤ 65536) := hid (by
       have h1 := HNk.out
       rw [nmsL_drop hlt,List.length_append] at h1
       have h2 := addN_len t.ts[k].nms lk
       constructor <;> omega)
      clear hat hin' hao HGk HNk
      generalize t.ts[k] = x at k0 k1 k2 k3 k4 HX HI HG3 HN3
      unfold Tm.val Tm.vals at HX
      generalize x.nms = xn at HX HG3 HN3
      go_wp2_with fail
      refine (HX.out _ _ _ HRk.out HN3.out.1 HI.out).mono ?_
      rintro e w5 ⟨v5,rfl,hr5,b5⟩
      have HR5 := hid hr5
      have HK5 := hid (HK.out.step b5)
      clear b5 hr5 k0 k1 k2 k3 k4
      go_wp2_with fail
      go_roundw
      case rel => exact ⟨k + 1,_,by go_num,by omega,HR5.out,HN3.out.2,HG3.out,HK5.out⟩
      case measure => simp [intOf]; omega
     ·have HE : Hid (lk = G) := by
       have := HGk.out
       rw [List.drop_eq_nil_of_le (by omega),nmsL] at this
       exact this
      go_wp2_with fail
      go_ret
      exact ⟨_,rfl,by rw [← HE.out]; exact HRk.out,HK.out.bel⟩
theorem RefNames_any (t : Tm) (h : Hd) (w : World) (hmay : t.may = true) (hin : t.In w.heap.size w h) :
 Calls Tryz.prog 46 #[t.val h] w (WithPost (addN t.nms []) w) := by
 have hfew : ([] : List (List UInt8)).length + t.nms.length ≤ 65536 := by have := nms_few hmay; simpa using this
 have HX := hid (rnames_any t h (.slice none 0 0) [] _ (Or.inl ⟨rfl,rfl⟩) hfew (carry hin (below_one w (t.box h))))
 generalize addN t.nms [] = R at HX ⊢
 unfold Tm.val at HX ⊢
 unfold Tm.box at HX
 dsimp only [Tm.vals] at HX ⊢
 clear hin hfew
 go_enter Tryz.func46,Tryz.ntmps46
 go_wp2_with fail
 refine HX.out.mono ?_
 rintro e w1 ⟨v1,rfl,hr1,b1⟩
 have HB := hid (Trm.go (below_one w _) b1)
 have HR := hid hr1
 clear b1 hr1
 go_wp2_with fail
 go_ret
 exact ⟨v1,rfl,HR.out,HB.out⟩
end Go.Proofs.YtiekbhlnnmnklaaGreat
