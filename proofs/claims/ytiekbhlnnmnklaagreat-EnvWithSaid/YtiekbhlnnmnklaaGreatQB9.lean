/-
  The contracts of slices.Sorted(maps.Keys(m)) at this program: each is one application of a contract of the library.
-/
import Derived.Shelf.SlIter.Nil
import Derived.Shelf.SortM.Plain
import Derived.Shelf.SortM.SortNone
import Derived.Ground.GgzProg
import Derived.Ground.SlgmProg
import Derived.Test.YtiekbhlnnmnklaaGreatProg
import Derived.Test.YtiekbhlnnmnklaaGreatQB6
import Derived.Test.YtiekbhlnnmnklaaGreatQB5
import Derived.BigQuiet
import Derived.Test.YtiekbhlnnmnklaaGreatQB3
import Derived.Carry
namespace Go.Proofs.YtiekbhlnnmnklaaGreat
open Go.RowKit Go.Maps Go.Sort Go.Shelf

def Tryz.keys124_ren : Go.Shelf.Ren := ⟨fun | 7 => 124 | 10 => 177 | n => n, fun | 23 => 163 | 26 => 9 | 3 => 4 | 28 => 168 | 0 => 0 | 27 => 167 | 33 => 148 | 4 => 4 | n => n, fun | n => n⟩
theorem Tryz.keys124 : Go.Proofs.SlLaysZ.n7 Tryz.prog Tryz.keys124_ren := {
  mixed := by kernel_rfl
  f7 := ⟨Tryz.f124.name, by decide, Tryz.func124.trans (congrArg some (by kernel_rfl))⟩
  f10 := ⟨Tryz.f177.name, by decide, Tryz.func177.trans (congrArg some (by kernel_rfl))⟩
  t0 := Tryz.underlying0
  a0 := Tryz.isAgg0
  z0 := Tryz.sizeOf0
  v0 := Tryz.zeroValue0
  t4 := Tryz.underlying4
  a4 := Tryz.isAgg4
  z4 := Tryz.sizeOf4
  v4 := Tryz.zeroValue4
  t23 := Tryz.underlying163
  a23 := Tryz.isAgg163
  z23 := Tryz.sizeOf163
  v23 := Tryz.zeroValue163
  t26 := Tryz.underlying9
  a26 := Tryz.isAgg9
  z26 := Tryz.sizeOf9
  v26 := Tryz.zeroValue9
  t27 := Tryz.underlying167
  a27 := Tryz.isAgg167
  z27 := Tryz.sizeOf167
  v27 := Tryz.zeroValue167
  t28 := Tryz.underlying168
  a28 := Tryz.isAgg168
  z28 := Tryz.sizeOf168
  v28 := Tryz.zeroValue168
  t33 := Tryz.underlying148
  a33 := Tryz.isAgg148
  z33 := Tryz.sizeOf148
  v33 := Tryz.zeroValue148 }

def Tryz.sorted123_ren : Go.Shelf.Ren := ⟨fun | 6 => 123 | 8 => 175 | 9 => 176 | 11 => 199 | 13 => 201 | 12 => 200 | 23 => 222 | 24 => 223 | 14 => 213 | 15 => 214 | 16 => 215 | 17 => 216 | 18 => 217 | 19 => 218 | 20 => 219 | 21 => 220 | 22 => 221 | 25 => 227 | 26 => 228 | 27 => 229 | 28 => 230 | 29 => 231 | 30 => 232 | 31 => 233 | n => n, fun | 26 => 9 | 28 => 168 | 24 => 36 | 0 => 0 | 3 => 3 | 37 => 226 | 48 => 243 | 50 => 245 | 4 => 4 | 40 => 236 | 39 => 235 | 45 => 70 | 5 => 5 | 9 => 9 | 51 => 246 | 55 => 250 | 57 => 252 | 58 => 253 | 33 => 148 | n => n, fun | n => n⟩
theorem Tryz.sorted123 : Go.Proofs.SlLaysZ.n6 Tryz.prog Tryz.sorted123_ren := {
  mixed := by kernel_rfl
  f6 := ⟨Tryz.f123.name, by decide, Tryz.func123.trans (congrArg some (by kernel_rfl))⟩
  f8 := ⟨Tryz.f175.name, by decide, Tryz.func175.trans (congrArg some (by kernel_rfl))⟩
  f11 := ⟨Tryz.f199.name, by decide, Tryz.func199.trans (congrArg some (by kernel_rfl))⟩
  t0 := Tryz.underlying0
  a0 := Tryz.isAgg0
  z0 := Tryz.sizeOf0
  v0 := Tryz.zeroValue0
  t24 := Tryz.underlying36
  a24 := Tryz.isAgg36
  z24 := Tryz.sizeOf36
  v24 := Tryz.zeroValue36
  t26 := Tryz.underlying9
  a26 := Tryz.isAgg9
  z26 := Tryz.sizeOf9
  v26 := Tryz.zeroValue9
  t28 := Tryz.underlying168
  a28 := Tryz.isAgg168
  z28 := Tryz.sizeOf168
  v28 := Tryz.zeroValue168
  i26 := by kernel_rfl }

def Tryz.sort176_ren : Go.Shelf.Ren := ⟨fun | 6 => 176 | 8 => 201 | 9 => 200 | 19 => 222 | 20 => 223 | 21 => 213 | 22 => 214 | 23 => 215 | 24 => 216 | 25 => 217 | 26 => 218 | 27 => 219 | 28 => 220 | 29 => 221 | 36 => 227 | 31 => 228 | 32 => 229 | 37 => 230 | 38 => 231 | 39 => 232 | 41 => 233 | n => n, fun | 27 => 36 | 29 => 9 | 3 => 3 | 32 => 226 | 26 => 36 | 0 => 0 | 44 => 243 | 46 => 245 | 4 => 4 | 36 => 236 | 35 => 235 | 41 => 70 | 5 => 5 | 9 => 9 | 53 => 246 | 57 => 250 | 63 => 252 | 64 => 253 | n => n, fun | n => n⟩
theorem Tryz.sort176 : Go.Proofs.SlLaysM.n6 Tryz.prog Tryz.sort176_ren := {
  mixed := by kernel_rfl
  f6 := ⟨Tryz.f176.name, by decide, Tryz.func176.trans (congrArg some (by kernel_rfl))⟩
  f8 := Tryz.func201.trans (congrArg some (by kernel_rfl))
  f9 := ⟨Tryz.f200.name, by decide, Tryz.func200.trans (congrArg some (by kernel_rfl))⟩
  f19 := Tryz.func222.trans (congrArg some (by kernel_rfl))
  f20 := Tryz.func223.trans (congrArg some (by kernel_rfl))
  f21 := ⟨Tryz.f213.name, by decide, Tryz.func213.trans (congrArg some (by kernel_rfl))⟩
  f22 := ⟨Tryz.f214.name, by decide, Tryz.func214.trans (congrArg some (by kernel_rfl))⟩
  f23 := ⟨Tryz.f215.name, by decide, Tryz.func215.trans (congrArg some (by kernel_rfl))⟩
  f24 := ⟨Tryz.f216.name, by decide, Tryz.func216.trans (congrArg some (by kernel_rfl))⟩
  f25 := ⟨Tryz.f217.name, by decide, Tryz.func217.trans (congrArg some (by kernel_rfl))⟩
  f26 := ⟨Tryz.f218.name, by decide, Tryz.func218.trans (congrArg some (by kernel_rfl))⟩
  f27 := ⟨Tryz.f219.name, by decide, Tryz.func219.trans (congrArg some (by kernel_rfl))⟩
  f28 := ⟨Tryz.f220.name, by decide, Tryz.func220.trans (congrArg some (by kernel_rfl))⟩
  f29 := ⟨Tryz.f221.name, by decide, Tryz.func221.trans (congrArg some (by kernel_rfl))⟩
  f31 := Tryz.func228.trans (congrArg some (by kernel_rfl))
  f32 := Tryz.func229.trans (congrArg some (by kernel_rfl))
  f36 := ⟨Tryz.f227.name, by decide, Tryz.func227.trans (congrArg some (by kernel_rfl))⟩
  f37 := ⟨Tryz.f230.name, by decide, Tryz.func230.trans (congrArg some (by kernel_rfl))⟩
  f38 := ⟨Tryz.f231.name, by decide, Tryz.func231.trans (congrArg some (by kernel_rfl))⟩
  f39 := ⟨Tryz.f232.name, by decide, Tryz.func232.trans (congrArg some (by kernel_rfl))⟩
  f41 := ⟨Tryz.f233.name, by decide, Tryz.func233.trans (congrArg some (by kernel_rfl))⟩
  t0 := Tryz.underlying0
  a0 := Tryz.isAgg0
  z0 := Tryz.sizeOf0
  v0 := Tryz.zeroValue0
  t3 := Tryz.underlying3
  a3 := Tryz.isAgg3
  z3 := Tryz.sizeOf3
  v3 := Tryz.zeroValue3
  t4 := Tryz.underlying4
  a4 := Tryz.isAgg4
  z4 := Tryz.sizeOf4
  v4 := Tryz.zeroValue4
  t5 := Tryz.underlying5
  a5 := Tryz.isAgg5
  z5 := Tryz.sizeOf5
  v5 := Tryz.zeroValue5
  t9 := Tryz.underlying9
  a9 := Tryz.isAgg9
  z9 := Tryz.sizeOf9
  v9 := Tryz.zeroValue9
  t26 := Tryz.underlying36
  a26 := Tryz.isAgg36
  z26 := Tryz.sizeOf36
  v26 := Tryz.zeroValue36
  t27 := Tryz.underlying36
  a27 := Tryz.isAgg36
  z27 := Tryz.sizeOf36
  v27 := Tryz.zeroValue36
  t29 := Tryz.underlying9
  a29 := Tryz.isAgg9
  z29 := Tryz.sizeOf9
  v29 := Tryz.zeroValue9
  t32 := Tryz.underlying226
  a32 := Tryz.isAgg226
  z32 := Tryz.sizeOf226
  v32 := Tryz.zeroValue226
  t35 := Tryz.underlying235
  a35 := Tryz.isAgg235
  z35 := Tryz.sizeOf235
  v35 := Tryz.zeroValue235
  t36 := Tryz.underlying236
  a36 := Tryz.isAgg236
  z36 := Tryz.sizeOf236
  v36 := Tryz.zeroValue236
  t41 := Tryz.underlying70
  a41 := Tryz.isAgg70
  z41 := Tryz.sizeOf70
  v41 := Tryz.zeroValue70
  t44 := Tryz.underlying243
  a44 := Tryz.isAgg243
  z44 := Tryz.sizeOf243
  v44 := Tryz.zeroValue243
  t46 := Tryz.underlying245
  a46 := Tryz.isAgg245
  z46 := Tryz.sizeOf245
  v46 := Tryz.zeroValue245
  t53 := Tryz.underlying246
  a53 := Tryz.isAgg246
  z53 := Tryz.sizeOf246
  v53 := Tryz.zeroValue246
  t57 := Tryz.underlying250
  a57 := Tryz.isAgg250
  z57 := Tryz.sizeOf250
  v57 := Tryz.zeroValue250
  t63 := Tryz.underlying252
  a63 := Tryz.isAgg252
  z63 := Tryz.sizeOf252
  v63 := Tryz.zeroValue252
  t64 := Tryz.underlying253
  a64 := Tryz.isAgg253
  z64 := Tryz.sizeOf253
  v64 := Tryz.zeroValue253 }

theorem Tryz.sorts123 (m : Nat) : AnyZ.SortsIn Tryz.prog Tryz.sorted123_ren Fence.wide m :=
  ⟨fun blk off cap ss W hH hblk hsz => callsIn_wide.2 (AnyM.slices_Sort_string Tryz.sort176 blk off cap ss W hH hblk hsz),
   fun p cap W => callsIn_wide.2 (AnyM.slices_Sort_string_none Tryz.sort176 p cap W)⟩

theorem Tryz.maps_Keys_124 (mb : Option Nat) (W : World) : CallsIn Fence.wide 5 Tryz.prog 124 #[.map mb] W fun e w' => e = .returned (.func (.func 177) #[] #[.pointer (some ⟨W.heap.size, 0, none⟩)]) ∧ w' = W.alloc (.cells #[.map mb] 163) :=
  AnyZ.keys_in Tryz.keys124 Fence.wide 5 trivial rfl mb W

set_option maxHeartbeats 1000000 in
theorem Tryz.slices_Sorted_keys_123_124 {H : Type} (b nn : Nat) (D0 : DataW H) (R : Value → Option (DataW H × List MemPlace)) (w : World) (hown : w.ownsMap Tryz.prog 9 R b nn D0) (hmax : Maps.size D0 ≤ maxLen) (hbytes : Maps.size D0 * 16 ≤ 140737488355328) :
    CallsIn Fence.wide 5 Tryz.prog 123 #[.func (.func 177) #[] #[.pointer (some ⟨w.heap.size, 0, none⟩)]] (w.alloc (.cells #[.map (some b)] 163)) fun e w' => ∃ (v : Value) (ss : List (List UInt8)), e = .returned v ∧ ss.Perm (strKeys D0) ∧
      w'.ownsRow (w.alloc (.cells #[.map (some b)] 163)).heap.size 9 1 v ss.length ((ss.mergeSort (fun x y => decide (x ≤ y))).map encStr) ∧ (v = .slice none 0 0 ↔ ss = []) ∧ Below (w.alloc (.cells #[.map (some b)] 163)).heap.size (w.alloc (.cells #[.map (some b)] 163)) w' := by
  have hbl := hown.lt
  have hseq : SeqGives Fence.wide 2 Tryz.prog 177 #[.pointer (some ⟨w.heap.size, 0, none⟩)] encStr (fun ss => ss.Perm (strKeys D0)) (Maps.size D0) (w.alloc (.cells #[.map (some b)] 163)) :=
    AnyZ.keys_gives (ρ := Tryz.keys124_ren) { Tryz.keys124 with } Fence.wide _ trivial rfl (by omega) w.heap.size b nn D0 _ (by simp) (by simp) (by
      obtain ⟨es, clock, hb, Ft, hs, hD⟩ := hown
      exact ⟨es, clock, (Below.heap_alloc _ _ b hbl).trans hb, Ft, hs, hD⟩)
  exact AnyZ.sorted_in Tryz.sorted123 Fence.wide 5 trivial trivial trivial trivial rfl (by omega) (Tryz.sorts123 _) (enters_of Tryz.func176 (by kernel_rfl) rfl) 177 #[.pointer (some ⟨w.heap.size, 0, none⟩)] trivial (enters_of Tryz.func177 (by kernel_rfl) rfl) _ _ hmax hbytes _ hseq

set_option maxHeartbeats 1000000 in
theorem Tryz.slices_Sorted_keys_nil_123_124 (w : World) :
    CallsIn Fence.wide 5 Tryz.prog 123 #[.func (.func 177) #[] #[.pointer (some ⟨w.heap.size, 0, none⟩)]] (w.alloc (.cells #[.map none] 163)) fun e w' => ∃ (v : Value) (ss : List (List UInt8)), e = .returned v ∧ ss = [] ∧
      w'.ownsRow (w.alloc (.cells #[.map none] 163)).heap.size 9 1 v ss.length ((ss.mergeSort (fun x y => decide (x ≤ y))).map encStr) ∧ (v = .slice none 0 0 ↔ ss = []) ∧ Below (w.alloc (.cells #[.map none] 163)).heap.size (w.alloc (.cells #[.map none] 163)) w' := by
  have hseq : SeqGives Fence.wide 2 Tryz.prog 177 #[.pointer (some ⟨w.heap.size, 0, none⟩)] encStr (fun ss : List (List UInt8) => ss = []) 0 (w.alloc (.cells #[.map none] 163)) :=
    AnyZ.keys_gives_nil (ρ := Tryz.keys124_ren) { Tryz.keys124 with } Fence.wide _ trivial rfl w.heap.size _ (by simp) (by simp)
  exact AnyZ.sorted_in Tryz.sorted123 Fence.wide 5 trivial trivial trivial trivial rfl (by omega) (Tryz.sorts123 _) (enters_of Tryz.func176 (by kernel_rfl) rfl) 177 #[.pointer (some ⟨w.heap.size, 0, none⟩)] trivial (enters_of Tryz.func177 (by kernel_rfl) rfl) _ 0 (Nat.zero_le _) (by omega) _ hseq



end Go.Proofs.YtiekbhlnnmnklaaGreat


namespace Go.Proofs.YtiekbhlnnmnklaaGreat
open Go.RowKit Go.Shelf Go.Maps Go.Sort Lvl Trm

namespace Trm
/-- Names as bytes rise, each once. -/
abbrev Rises (l : List (List UInt8)) : Prop := l.Pairwise (· < ·)
theorem rises_sort {l : List (List UInt8)} (hn : l.Nodup) : Rises (l.mergeSort leB) := by
  have tr : ∀ a b c : List UInt8, leB a b = true → leB b c = true → leB a c = true := fun a b c h1 h2 => by simp only [leB, decide_eq_true_eq] at *; exact List.le_trans h1 h2
  have to : ∀ a b : List UInt8, (leB a b || leB b a) = true := fun a b => by simp only [leB, Bool.or_eq_true, decide_eq_true_eq]; exact List.le_total a b
  have h1 := List.pairwise_mergeSort tr to l
  have h2 : (l.mergeSort leB).Nodup := (List.mergeSort_perm l leB).nodup_iff.2 hn
  refine (h1.and h2).imp ?_
  rintro a b ⟨h3, h4⟩
  simp only [leB, decide_eq_true_eq] at h3
  by_cases h : a < b
  · exact h
  · exact absurd (List.le_antisymm h3 (List.not_lt.1 h)) h4

/-- A row of strings lies in w, below block B. -/
structure SRow (B : Nat) (w : World) (ao : Option Addr) (l : List (List UInt8)) : Prop where
  place : ∀ k (h : k < l.length), ∃ b off, ao = some ⟨b, off, none⟩ ∧ b < B ∧ w.cell? ⟨b, off + k, none⟩ = some (.string ⟨l[k].toArray⟩)
theorem SRow.below {B : Nat} {w w' : World} {ao : Option Addr} {l : List (List UInt8)} (h : SRow B w ao l) (b : Below B w w') : SRow B w' ao l :=
  ⟨fun k hk => by
    obtain ⟨c, off, hao, hc, hx⟩ := h.place k hk
    exact ⟨c, off, hao, hc, (b.cell (p := ⟨c, _, none⟩) hc).trans hx⟩⟩
theorem SRow.mono {B B' : Nat} {w : World} {ao : Option Addr} {l : List (List UInt8)} (h : SRow B w ao l) (hB : B ≤ B') : SRow B' w ao l :=
  ⟨fun k hk => by
    obtain ⟨c, off, hao, hc, hx⟩ := h.place k hk
    exact ⟨c, off, hao, by omega, hx⟩⟩
theorem SRow.carry {w w' : World} {ao : Option Addr} {l : List (List UInt8)} (h : SRow w.heap.size w ao l) (b : Below w.heap.size w w') : SRow w'.heap.size w' ao l := (h.below b).mono b.size
theorem row_strs {w : World} {base n : Nat} {v : Value} {l : List (List UInt8)} (hn : n = l.length) (h : w.ownsRow base 9 1 v n (l.map encStr)) : ∃ ao cap, v = .slice ao l.length cap ∧ SRow w.heap.size w ao l := by
  subst hn
  have h0 := h
  obtain ⟨hl, ⟨hv, hn0⟩ | ⟨g, cap, cur, rfl, hb, hg, hm, hmx, hs, ht⟩⟩ := h
  · have e : l.length = 0 := hn0
    exact ⟨none, 0, by rw [hv, e], ⟨fun k hk => by omega⟩⟩
  · have hgl : g < w.heap.size := (Array.getElem?_eq_some_iff.1 hg).1
    refine ⟨some ⟨g, 0, none⟩, cap, rfl, ⟨fun k hk => ⟨g, 0, rfl, hgl, ?_⟩⟩⟩
    rw [Nat.zero_add, h0.cellAt k (by omega), List.getElem?_map, List.getElem?_eq_getElem hk]
    rfl

/-- What Names answers of a term that may be. -/
def NamesPost (t : Tm) (w : World) (e : Ending) (w' : World) : Prop := ∃ ao cap l, e = .returned (.slice ao l.length cap) ∧ SRow w'.heap.size w' ao l ∧ Rises l ∧ (∀ x, x ∈ l ↔ x ∈ t.nms) ∧ Below w.heap.size w w'
end Trm

set_option maxRecDepth 100000 in
set_option maxHeartbeats 4000000 in
theorem Names_yes (t : Tm) (h : Hd) (w : World) (hin : t.In w.heap.size w h) (hmay : t.may = true) :
    Calls Tryz.prog 68 #[t.val h] w (NamesPost t w) := by
  have HM := Lib.hid (fun (W : World) (hW : Below w.heap.size w W) => (show Calls Tryz.prog 82 #[t.val h] W fun e w' => e = .returned (.bool true) ∧ Below W.heap.size W w' from hmay ▸ PMay_any t h W (Tm.In.mono hW.size _ _ (Tm.In.below hW _ _ hin))))
  have HIN := Lib.hid hin
  have HX0 := Lib.hid (World.alloc_heap_new w (t.box h))
  have hsz : t.nms.length ≤ 65536 := by have h1 := nms_size t; have h2 := count_ge t; unfold Tm.count at h2; rw [if_pos hmay] at h2; omega
  have HW := Lib.hid (fun (W : World) (m : Nat) (hm : w.heap.size < m) (hm2 : m < W.heap.size) (hb : Below (w.heap.size + 1) (w.alloc (t.box h)) W) (hown : W.ownsMap Tryz.prog 9 (plainElem Tryz.prog 4) m 0 (DN [])) (hC : W.heap[m + 1]? = some (.cells #[.map (some m)] 163)) =>
    (show Calls Tryz.prog 121 #[.pointer (some ⟨w.heap.size, 0, none⟩), .func (.func 122) #[] #[.pointer (some ⟨m + 1, 0, none⟩)]] W (fun e w' => e = .returned (.bool true) ∧ NInv m (m + 1) t.nms w' ∧ Ran m W w') from by
      have hbx : W.heap[w.heap.size]? = some (t.box h) := (hb.block _ (by omega)).trans (World.alloc_heap_new w _)
      have h1 := walk_any (sees_names t.nms hsz (B := w.heap.size + 1) (m := m) (C := m + 1) (by omega) (by omega)) t [] w.heap.size 0 W (fun x hx => by cases hx) ⟨by exact own_exact hown, hC⟩ ⟨OkMay.start hmay, fun x hx => hx⟩ ⟨by omega, by omega, h, Tm.cells hbx, Tm.In.mono (by omega) _ _ (Tm.In.below ((below_one w (t.box h)).trans (hb.mono (by omega))) _ _ hin)⟩ (by omega) hm2
      rw [Tm.walk_names] at h1
      exact h1))
  have hmm := @run_makeMap Tryz.prog
  unfold Tm.val at HM ⊢
  unfold Tm.box at HW HX0
  dsimp only [Tm.vals] at HM HW HX0 ⊢
  clear hin hmay
  go_enter Tryz.func68, Tryz.ntmps68
  go_wp2_with fail
  refine (HM.out _ (below_one w _)).mono ?_
  rintro e w1 ⟨rfl, b1⟩
  have HB1 := Lib.hid b1
  have hz1 := b1.size
  clear b1
  go_wp2_with fail
  have hown0 : ((w1.alloc (.map #[] 0)).alloc (.cells #[.map (some w1.heap.size)] 163)).ownsMap Tryz.prog 9 (plainElem Tryz.prog 4) w1.heap.size 0 (DN []) := (World.ownsMap_made w1 Tryz.prog _ _).alloc _
  have hC0 : ((w1.alloc (.map #[] 0)).alloc (.cells #[.map (some w1.heap.size)] 163)).heap[w1.heap.size + 1]? = some (.cells #[.map (some w1.heap.size)] 163) := new2 w1 (.map #[] 0) _
  have hb2 := below_two w1 (.map #[] 0) (.cells #[.map (some w1.heap.size)] 163)
  have hbA : Below (w.heap.size + 1) _ w1 := HB1.out.mono (by simp)
  have HB2 := Lib.hid (hb2.mono (B' := w.heap.size) (by simp at hz1; omega))
  refine (HW.out _ w1.heap.size (by simp at hz1; omega) (by simp; omega) (hbA.trans (hb2.mono (by simp at hz1; omega))) hown0 hC0).mono ?_
  clear hown0 hC0 hb2
  rintro e w3 ⟨rfl, hinv, hran⟩
  obtain ⟨hown3, hC3⟩ := hinv
  have hm1 : w.heap.size < w1.heap.size := by simp at hz1; omega
  have HB3 := Lib.hid (show Below w.heap.size w w3 from ((below_one w _).trans (HB1.out.mono (by simp))).trans (HB2.out.trans (hran.below (by omega) (by simp; omega))))
  generalize w1.heap.size = m at hown3 hC3 hm1 hran HW ⊢
  have hc3 := Lvl.one_cell hC3
  have HS := Lib.hid ((callsIn_wide (n := 5)).1 (Tryz.slices_Sorted_keys_123_124 m _ (DN t.nms) (plainElem Tryz.prog 4) w3 hown3 (by have := DN_size (st := t.nms) (Ns := t.nms) (fun x h => h); unfold maxLen; omega) (by have := DN_size (st := t.nms) (Ns := t.nms) (fun x h => h); omega)))
  have HK := Lib.hid ((callsIn_wide (n := 5)).1 (Tryz.maps_Keys_124 (some m) w3))
  clear hown3 hran hC3 HW
  go_wp2_with fail
  refine HK.out.mono ?_
  rintro e w4 ⟨rfl, rfl⟩
  go_wp2_with fail
  refine HS.out.mono ?_
  rintro e w5 ⟨v, ss, rfl, hperm, hrow, _, hb5⟩
  have hlen : ss.length = (ss.mergeSort leB).length := (List.mergeSort_perm ss leB).length_eq.symm
  obtain ⟨ao, cap, rfl, hsr⟩ := row_strs hlen hrow
  have HSR := Lib.hid hsr
  have HB5 := Lib.hid (show Below w.heap.size w w5 from HB3.out.trans ((below_one w3 _).mono HB3.out.size |>.trans (hb5.mono (by have := HB3.out.size; simp; omega))))
  have HRI := Lib.hid (show Rises (ss.mergeSort leB) from rises_sort (hperm.nodup_iff.2 (DN_nodup _)))
  have HME := Lib.hid (show ∀ x, x ∈ ss.mergeSort leB ↔ x ∈ t.nms from fun x => by rw [(List.mergeSort_perm ss leB).mem_iff, hperm.mem_iff, DN_strKeys])
  clear hrow hperm hb5 hsr hlen
  generalize ss.mergeSort leB = l at HSR HRI HME ⊢
  go_wp2_with fail
  go_ret
  exact ⟨ao, cap, _, rfl, HSR.out, HRI.out, HME.out, HB5.out⟩
end Go.Proofs.YtiekbhlnnmnklaaGreat



namespace Go.Proofs.YtiekbhlnnmnklaaGreat
open Go.RowKit Go.Shelf Go.Maps Go.Sort Lvl Trm

namespace Trm
theorem rises_nodup {l : List (List UInt8)} (h : Rises l) : l.Nodup :=
  (List.Pairwise.imp (fun {a b} (hab : a < b) (e : a = b) => by subst e; exact List.lt_irrefl _ hab) h : l.Pairwise (· ≠ ·))
/-- What Names answers of any term. -/
def NamesPost2 (t : Tm) (w : World) (e : Ending) (w' : World) : Prop := ∃ ao cap l, e = .returned (.slice ao l.length cap) ∧ SRow w'.heap.size w' ao l ∧ (t.may = true → Rises l ∧ ∀ x, x ∈ l ↔ x ∈ t.nms) ∧ l.length ≤ 65536 ∧ Below w.heap.size w w'
theorem names_few {t : Tm} (hm : t.may = true) {l : List (List UInt8)} (hr : Rises l) (h : ∀ x, x ∈ l ↔ x ∈ t.nms) : l.length ≤ 65536 := by
  have h1 := nodup_le l t.nms (rises_nodup hr) (fun x hx => (h x).1 hx)
  have h2 := nms_size t
  have h3 := count_ge t
  unfold Tm.count at h3
  rw [if_pos hm] at h3
  omega
end Trm

set_option maxRecDepth 100000 in
set_option maxHeartbeats 1000000 in
theorem Names_any (t : Tm) (h : Hd) (w : World) (hin : t.In w.heap.size w h) :
    Calls Tryz.prog 68 #[t.val h] w (NamesPost2 t w) := by
  cases hm : t.may
  · have HM := Lib.hid (fun (W : World) (hW : Below w.heap.size w W) => (show Calls Tryz.prog 82 #[t.val h] W fun e w' => e = .returned (.bool false) ∧ Below W.heap.size W w' from hm ▸ PMay_any t h W (Tm.In.mono hW.size _ _ (Tm.In.below hW _ _ hin))))
    have HT : Hid (¬ t.may = true) := Lib.hid (by rw [hm]; simp)
    unfold Tm.val at HM ⊢
    dsimp only [Tm.vals] at HM ⊢
    clear hin hm
    go_enter Tryz.func68, Tryz.ntmps68
    go_wp2_with fail
    refine (HM.out _ (below_one w _)).mono ?_
    rintro e w1 ⟨rfl, b1⟩
    have HB1 := Lib.hid (Trm.go (below_one w _) b1)
    clear b1
    go_wp2_with fail
    go_ret
    exact ⟨none, 0, [], rfl, ⟨fun k hk => by simp at hk⟩, fun hh => absurd hh HT.out, by simp, HB1.out⟩
  · refine (Names_yes t h w hin hm).mono ?_
    rintro e w' ⟨ao, cap, l, he, h1, h2, h3, h4⟩
    exact ⟨ao, cap, l, he, h1, fun _ => ⟨h2, h3⟩, names_few hm h2 h3, h4⟩

end Go.Proofs.YtiekbhlnnmnklaaGreat



namespace Go.Proofs.YtiekbhlnnmnklaaGreat
open Go.RowKit Go.Shelf Go.Maps Lvl Trm Env

namespace Env
/-- Where each name of a list stands first. -/
structure TiedP (D : DataW Unit) (ks : List (List UInt8)) : Prop where
  isMap : IsMap D
  has : ∀ k : List UInt8, Maps.has D (.string k) = true ↔ k ∈ ks
  at_ : ∀ k ∈ ks, ∀ z, D.atKey (.string k) z = .lit (.int .i64 (ks.idxOf k : Nat))
theorem zeroI (w : World) : (zeroValue 3).run Tryz.prog w = .ok (.int .i64 0) w := by kernel_rfl
set_option maxRecDepth 100000 in
theorem places_ok {w : World} {m n : Nat} {D : DataW Unit} {ks : List (List UInt8)} (hown : w.ownsMap Tryz.prog 9 (plainElem Tryz.prog 3) m n D) (ht : TiedP D ks) {s : ByteArray} (hs : s.size ≤ maxLen) :
    (Instr.lookup 145 (.map (some m)) (.string s) true).run Tryz.prog w = .ok (.tuple #[.int .i64 ((if key s ∈ ks then ks.idxOf (key s) else 0 : Nat) : Int), .bool (decide (key s ∈ ks))]) w := by
  obtain ⟨x, ps, hrun, hx⟩ := hown.look_ok (string_keyed Tryz.underlying9) Tryz.underlying145 (zeroI w) (plainElem_int Tryz.underlying3 (q := .i64) (a := 0) (by decide)) (WideMaps.keyOf_string_mk Tryz.underlying9 hs)
  obtain ⟨c, rfl, hc, _⟩ := plainElem_int_inv Tryz.underlying3 hx
  rw [hrun]
  have hc1 : D.atKey (.string (key s)) (.lit (.int .i64 0)) = .lit (.int .i64 c) := congrArg Prod.fst hc
  have hhas := ht.has (key s)
  by_cases hin : key s ∈ ks
  · rw [show Maps.has D (.string s.data.toList) = true from hhas.2 hin, if_pos hin, decide_eq_true hin]
    rw [ht.at_ _ hin] at hc1
    injection hc1 with h1
    injection h1 with _ h1
    rw [h1]
  · have hn : Maps.has D (.string (key s)) = false := by
      cases hb : Maps.has D (.string (key s))
      · rfl
      · exact absurd (hhas.1 hb) hin
    rw [show Maps.has D (.string s.data.toList) = false from hn, if_neg hin, decide_eq_false hin]
    rw [atKey_of_not_has hn] at hc1
    injection hc1 with h1
    injection h1 with _ h1
    rw [← h1]; rfl
/-- Is a name there, or in the list, ahead of place i where it must be? -/
def known (L : List Ent) (ks : List (List UInt8)) (i : Nat) (hv : Bool) (k : List UInt8) : Bool := (lookE L k).isSome || (decide (k ∈ ks) && (decide (ks.idxOf k < i) || !hv))
def fnK (P E I X : Nat) : Value := .func (.func 104) #[] #[.pointer (some ⟨P, 0, none⟩), .pointer (some ⟨E, 0, none⟩), .pointer (some ⟨I, 0, none⟩), .pointer (some ⟨X, 0, none⟩)]
/-- What the closure holds. -/
structure KCtx (B : Nat) (w : World) (P E I X : Nat) (e : Nat) (L : List Ent) (ks : List (List UInt8)) (i : Nat) (x : Inf) : Prop where
  places : ∃ m n D, w.heap[P]? = some (.cells #[.map (some m)] 145) ∧ w.ownsMap Tryz.prog 9 (plainElem Tryz.prog 3) m n D ∧ TiedP D ks
  env : w.heap[E]? = some (.cells #[.pointer (some ⟨e, 0, none⟩)] 31)
  at_ : w.heap[I]? = some (.cells #[.int .i64 i] 3)
  info : ∃ h, IBox w X x h
  ent : ∃ mo v, EnvB B w e L mo v
theorem MapE.below {w w' : World} {mo : Option Nat} {L : List Ent} (h : MapE w mo L) (b : Below w.heap.size w w') : MapE w' mo L := by
  rcases h with h | ⟨m, D, hm, hown, ht⟩
  · exact Or.inl h
  · exact Or.inr ⟨m, D, hm, ⟨hown.choose, hown.choose_spec.choose, (b.block m hown.lt).trans hown.choose_spec.choose_spec.1, hown.choose_spec.choose_spec.2⟩, ht⟩
theorem EnvB.below {B : Nat} {w w' : World} {e : Nat} {L : List Ent} {mo : Option Nat} {v : Value} (h : EnvB B w e L mo v) (b : Below w.heap.size w w') : EnvB B w' e L mo v :=
  ⟨(b.block e (Array.getElem?_eq_some_iff.1 h.box).1).trans h.box, row_keep h.row b, h.map.below b, fun p hp => ⟨(h.info p hp).1.keep b, (h.info p hp).2⟩, fun p hp => (h.firm p hp).step (RanS.of_below b), h.nodup, h.apart, h.eB, h.hgt, h.few⟩
theorem KCtx.below {B : Nat} {w w' : World} {P E I X e i : Nat} {L : List Ent} {ks : List (List UInt8)} {x : Inf} (h : KCtx B w P E I X e L ks i x) (b : Below w.heap.size w w') : KCtx B w' P E I X e L ks i x := by
  obtain ⟨⟨m, n, D, h1, h2, h3⟩, h4, h5, ⟨hd, h6⟩, mo, v, h7⟩ := h
  have key : ∀ {q : Nat} {o : Obj}, w.heap[q]? = some o → w'.heap[q]? = some o := fun hq => (b.block _ (Array.getElem?_eq_some_iff.1 hq).1).trans hq
  exact ⟨⟨m, n, D, key h1, ⟨h2.choose, h2.choose_spec.choose, (b.block m h2.lt).trans h2.choose_spec.choose_spec.1, h2.choose_spec.choose_spec.2⟩, h3⟩, key h4, key h5, ⟨hd, h6.keep b⟩, mo, v, h7.below b⟩
theorem one_cellE {w : World} {b : Nat} {u : Value} {ty : TypeId} (h : w.heap[b]? = some (.cells #[u] ty)) : w.cell? ⟨b, 0, none⟩ = some u := by simp [World.cell?, h]
end Env

set_option maxRecDepth 100000 in
set_option maxHeartbeats 4000000 in
theorem known_any {B : Nat} {w : World} {P E I X e i : Nat} {L : List Ent} {ks : List (List UInt8)} {x : Inf} (h : KCtx B w P E I X e L ks i x) (hk : ks.length ≤ 1000000) (s : ByteArray) (hs : s.size ≤ maxLen) :
    Calls Tryz.prog 104 #[.string s, .pointer (some ⟨P, 0, none⟩), .pointer (some ⟨E, 0, none⟩), .pointer (some ⟨I, 0, none⟩), .pointer (some ⟨X, 0, none⟩)] w fun y w' => y = .returned (.bool (known L ks i x.hv (key s))) ∧ w = w' := by
  obtain ⟨⟨m, n, D, h1, h2, h3⟩, h4, h5, ⟨hd, h6⟩, mo, v, h7⟩ := h
  have hrun := places_ok h2 h3 hs
  have HA := Lib.hid (at_any h7 s hs)
  have HV := Lib.hid (hasValue_any h6)
  have cP := one_cellE h1
  have cE := one_cellE h4
  have cI := one_cellE h5
  obtain ⟨G, hG⟩ : ∃ G, G = known L ks i x.hv (key s) := ⟨_, rfl⟩
  rw [← hG]
  unfold known at hG
  obtain ⟨N, hN⟩ : ∃ N : Nat, N = (if key s ∈ ks then ks.idxOf (key s) else 0) := ⟨_, rfl⟩
  have hNle : N ≤ 1000000 := by
    rw [hN]; split
    · have := List.idxOf_le_length (a := key s) (l := ks); omega
    · omega
  have hNe : key s ∈ ks → ks.idxOf (key s) = N := fun hm => by rw [hN, if_pos hm]
  rw [← hN] at hrun
  obtain ⟨Z, hZ⟩ : ∃ Z : Bool, Z = decide (key s ∈ ks) := ⟨_, rfl⟩
  rw [← hZ] at hrun hG
  have hZN : Z = true → decide (ks.idxOf (key s) < i) = decide (N < i) := fun hz => by
    rw [hZ] at hz
    rw [hNe (of_decide_eq_true hz)]
  obtain ⟨V, hV⟩ : ∃ V, V = x.hv := ⟨_, rfl⟩
  rw [← hV] at HV hG
  obtain ⟨O, hO⟩ : ∃ O, O = lookE L (key s) := ⟨_, rfl⟩
  rw [← hO] at HA hG
  have HG := Lib.hid hG
  have HZN := Lib.hid hZN
  have hNi : ((N : Int) < (i : Int)) ↔ N < i := by omega
  have HNI := Lib.hid hNi
  clear h1 h2 h3 h4 h5 h6 h7 hG hN hNle hNe hZ hZN hV hO hNi
  cases O with
  | some p =>
    have HE : Hid (true = G) := Lib.hid (by rw [HG.out]; rfl)
    unfold ptrV at HA
    clear HG
    go_enter Tryz.func104, Tryz.ntmps104
    go_wp2_with fail
    refine HA.out.mono ?_
    rintro y w' ⟨rfl, rfl⟩
    go_wp2_with fail
    go_ret
    exact ⟨by rw [← HE.out]; rfl, rfl⟩
  | none =>
    unfold ptrV at HA
    cases Z
    · have HE : Hid (false = G) := Lib.hid (by rw [HG.out]; rfl)
      clear HG
      go_enter Tryz.func104, Tryz.ntmps104
      go_wp2_with fail
      refine HA.out.mono ?_
      rintro y w' ⟨rfl, rfl⟩
      go_wp2_with fail
      go_ret
      exact ⟨by rw [← HE.out]; rfl, rfl⟩
    · by_cases hlt : N < i
      · have HE : Hid (true = G) := Lib.hid (by rw [HG.out, HZN.out rfl, decide_eq_true hlt]; rfl)
        have hd1 : decide ((N : Int) < (i : Int)) = true := decide_eq_true (by omega)
        clear HG HZN
        go_enter Tryz.func104, Tryz.ntmps104
        go_wp2_with fail
        refine HA.out.mono ?_
        rintro y w' ⟨rfl, rfl⟩
        go_wp2_with fail
        go_ret
        exact ⟨by rw [← HE.out]; rfl, rfl⟩
      · have HE : Hid ((!V) = G) := Lib.hid (by rw [HG.out, HZN.out rfl, decide_eq_false hlt]; rfl)
        have hd1 : decide ((N : Int) < (i : Int)) = false := decide_eq_false (by omega)
        clear HG HZN
        go_enter Tryz.func104, Tryz.ntmps104
        go_wp2_with fail
        refine HA.out.mono ?_
        rintro y w' ⟨rfl, rfl⟩
        go_wp2_with fail
        refine HV.out.mono ?_
        rintro y w' ⟨rfl, rfl⟩
        cases V
        all_goals
          go_wp2_with fail
          go_ret
          exact ⟨by rw [← HE.out]; rfl, rfl⟩
end Go.Proofs.YtiekbhlnnmnklaaGreat


namespace Go.Proofs.YtiekbhlnnmnklaaGreat
open Go.RowKit Go.Shelf Go.Maps Lvl Trm Env

namespace Env
theorem node_strE {t : Tm} (h : t.node = true) : t.s.size ≤ 32 := by
  unfold Tm.node at h
  simp only [Bool.and_eq_true] at h
  have h6 := h.1.1.2
  split at h6
  · unfold nameOk at h6; simp only [Bool.and_eq_true, decide_eq_true_eq] at h6; omega
  · simp only [decide_eq_true_eq] at h6; omega
theorem nmsL_from {k : List UInt8} : ∀ {ts : List Tm}, k ∈ nmsL ts → ∃ x ∈ ts, k ∈ x.nms
  | [], h => by rw [nmsL] at h; cases h
  | t :: r, h => by
    rw [nmsL] at h
    rcases List.mem_append.1 h with h | h
    · exact ⟨t, by simp, h⟩
    · obtain ⟨x, hx, hk⟩ := nmsL_from h
      exact ⟨x, by simp [hx], hk⟩
theorem nms_long {t : Tm} : t.may = true → ∀ k ∈ t.nms, k.length ≤ maxLen := by
  induction t using Tm.ind with
  | h t ih =>
    intro hm k hk
    rw [Tm.nms_eq] at hk
    rcases List.mem_append.1 hk with hk | hk
    · unfold oneN at hk
      split at hk
      · cases hk
      · simp at hk
        subst hk
        have := node_strE (Arn.may_node hm)
        show t.s.data.toList.length ≤ maxLen
        rw [Array.length_toList]
        exact Nat.le_trans this (by decide)
    · obtain ⟨x, hx, hkx⟩ := nmsL_from hk
      exact ih x hx (Arn.may_part hm hx) k hkx
/-- The closure stands in a variable. -/
def KVar (w : World) (KB P E I X : Nat) : Prop := w.heap[KB]? = some (.cells #[fnK P E I X] 148)
theorem KVar.below {w w' : World} {KB P E I X : Nat} (h : KVar w KB P E I X) (b : Below w.heap.size w w') : KVar w' KB P E I X := (b.block _ (Array.getElem?_eq_some_iff.1 h).1).trans h
def unk (b : Bool) : Int := if b = true then 0 else 6
def SsRel (w : World) (f : List UInt8 → Bool) (l : List (List UInt8)) (i : Value) (wr : World) : Prop := ∃ k : Nat, i = .int .i64 k ∧ k ≤ l.length ∧ (∀ j (h : j < l.length), j < k → f l[j] = true) ∧ w = wr
end Env

set_option maxRecDepth 100000 in
set_option maxHeartbeats 1000000 in
theorem unknown_any {B : Nat} {w : World} {KB P E I X e i : Nat} {L : List Ent} {ks : List (List UInt8)} {x : Inf} (h : KCtx B w P E I X e L ks i x) (hK : KVar w KB P E I X) (hk : ks.length ≤ 1000000) (n : Int) (s : ByteArray) (hs : s.size ≤ maxLen) :
    Calls Tryz.prog 159 #[.int .i64 n, .string s, .pointer (some ⟨KB, 0, none⟩)] w fun y w' => y = .returned (.int .i64 (unk (known L ks i x.hv (key s)))) ∧ w = w' := by
  have HKN := Lib.hid (known_any h hk s hs)
  have cK := one_cellE hK
  unfold fnK at cK
  obtain ⟨G, hG⟩ : ∃ G, G = known L ks i x.hv (key s) := ⟨_, rfl⟩
  rw [← hG] at HKN ⊢
  clear h hK hk hG
  unfold unk
  cases G
  all_goals
    go_enter Tryz.func159, Tryz.ntmps159
    go_wp2_with fail
    refine HKN.out.mono ?_
    rintro y w' ⟨rfl, rfl⟩
    go_wp2_with fail
    go_ret
    exact ⟨rfl, rfl⟩

set_option maxRecDepth 100000 in
set_option maxHeartbeats 2000000 in
theorem searchS_any {B : Nat} {w : World} {KB P E I X e i : Nat} {L : List Ent} {ks : List (List UInt8)} {x : Inf} (h : KCtx B w P E I X e L ks i x) (hK : KVar w KB P E I X) (hk : ks.length ≤ 1000000) (l : List (List UInt8)) (ao : Option Addr) (cp : Nat) (hr : SRow w.heap.size w ao l) (hl : l.length ≤ 1000000) (hls : ∀ k ∈ l, k.length ≤ maxLen) :
    Calls Tryz.prog 158 #[.slice ao l.length cp, .func (.func 159) #[] #[.pointer (some ⟨KB, 0, none⟩)]] w fun y w' => y = .returned (.int .i64 (unk (l.all (known L ks i x.hv)))) ∧ w = w' := by
  have HU := Lib.hid (fun n s hs => unknown_any h hK hk n s hs)
  have HR := Lib.hid hr
  have HL := Lib.hid hl
  have HLS := Lib.hid hls
  obtain ⟨f, hf⟩ : ∃ f, f = known L ks i x.hv := ⟨_, rfl⟩
  rw [← hf] at HU ⊢
  obtain ⟨G, hG⟩ : ∃ G, G = unk (l.all f) := ⟨_, rfl⟩
  rw [← hG]
  have HG := Lib.hid hG
  clear h hK hk hr hl hls hf hG
  go_enter Tryz.func158, Tryz.ntmps158
  go_wp2_with fail
  go_loopw [10] (fun i wr => SsRel w f l i wr) (fun i _ => l.length - (intOf i).toNat)
  case atStart => exact ⟨0, rfl, by omega, fun j _ hj => by omega, rfl⟩
  case round =>
    obtain ⟨k, rfl, hk, hall, rfl⟩ := hrel
    have HALL := Lib.hid hall
    clear hall
    by_cases hlt : k < l.length
    · obtain ⟨b, off, hao, hb, hc⟩ := HR.out.place k hlt
      subst hao
      have HUK := Lib.hid (HU.out k ⟨l[k].toArray⟩ (by show l[k].toArray.size ≤ maxLen; rw [List.size_toArray]; exact HLS.out _ (List.getElem_mem hlt)))
      have hkk : key ⟨l[k].toArray⟩ = l[k] := by simp [key]
      rw [hkk] at HUK
      have HNO : Hid (f l[k] = false → (6 : Int) = G) := Lib.hid (fun hh => by
        rw [HG.out]
        have : l.all f = false := by
          rw [← Bool.not_eq_true, List.all_eq_true]
          intro ha
          have := ha _ (List.getElem_mem hlt)
          rw [hh] at this; cases this
        rw [this]; rfl)
      have HYE : Hid (f l[k] = true → ∀ j (h : j < l.length), j < k + 1 → f l[j] = true) := Lib.hid (fun hh j hj hjk => by
        by_cases e : j = k
        · subst e; exact hh
        · exact HALL.out j hj (by omega))
      obtain ⟨z, hz⟩ : ∃ z, z = f l[k] := ⟨_, rfl⟩
      rw [← hz] at HUK HNO HYE
      clear hz hkk
      generalize (⟨l[k].toArray⟩ : ByteArray) = y at hc HUK
      have HLT := Lib.hid hlt
      unfold unk at HUK
      cases z
      · go_wp2_with fail
        refine HUK.out.mono ?_
        rintro e w' ⟨rfl, rfl⟩
        have HE := Lib.hid (HNO.out trivial)
        go_wp2_with fail
        go_ret
        exact ⟨by rw [← HE.out]; rfl, rfl⟩
      · have hwk : wrap64 ((k : Int) + 1) = (k : Int) + 1 := IntWalk.wrap64_in _ (by have := HL.out; omega)
        go_wp2_with fail
        refine HUK.out.mono ?_
        rintro e w' ⟨rfl, rfl⟩
        have HE := Lib.hid (HYE.out trivial)
        go_wp2_with fail
        go_roundw
        case rel => exact ⟨k + 1, by rw [hwk]; rfl, HLT.out, HE.out, rfl⟩
        case measure => exact less_step hwk HLT.out
    · have HE : Hid ((0 : Int) = G) := Lib.hid (by
        rw [HG.out]
        have : l.all f = true := by
          rw [List.all_eq_true]
          intro y hy
          obtain ⟨j, hj, rfl⟩ := List.getElem_of_mem hy
          exact HALL.out j hj (by omega)
        rw [this]; rfl)
      go_wp2_with fail
      go_ret
      exact ⟨by rw [← HE.out]; rfl, rfl⟩

set_option maxRecDepth 100000 in
set_option maxHeartbeats 2000000 in
theorem namesKnown_any {B : Nat} {w : World} {KB P E I X e i : Nat} {L : List Ent} {ks : List (List UInt8)} {x : Inf} (h : KCtx B w P E I X e L ks i x) (hK : KVar w KB P E I X) (hk : ks.length ≤ 1000000) (n : Int) (t : Tm) (ht : Hd) (hin : t.In w.heap.size w ht) (hm : t.may = true) :
    Calls Tryz.prog 157 #[.int .i64 n, t.val ht, .pointer (some ⟨KB, 0, none⟩)] w fun y w' => y = .returned (.int .i64 (unk (t.nms.all (known L ks i x.hv)))) ∧ Below w.heap.size w w' := by
  obtain ⟨WA, hWA⟩ : ∃ WA, WA = w.alloc (t.box ht) := ⟨_, rfl⟩
  have HBA := Lib.hid (show Below w.heap.size w WA from hWA ▸ below_one _ _)
  have HBX := Lib.hid (show WA.heap[w.heap.size]? = some (t.box ht) from hWA ▸ World.alloc_heap_new w _)
  have HN := Lib.hid (Names_yes t ht WA (carry hin HBA.out) hm)
  have HS := Lib.hid (fun (W : World) (hW : Below WA.heap.size WA W) (l : List (List UInt8)) (ao : Option Addr) (cp : Nat) (hr : SRow W.heap.size W ao l) (hl : l.length ≤ 1000000) (hls : ∀ k ∈ l, k.length ≤ maxLen) => searchS_any (h.below (Trm.go HBA.out hW)) (hK.below (Trm.go HBA.out hW)) hk l ao cp hr hl hls)
  have HM := Lib.hid hm
  obtain ⟨f, hf⟩ : ∃ f, f = known L ks i x.hv := ⟨_, rfl⟩
  rw [← hf] at HS ⊢
  obtain ⟨G, hG⟩ : ∃ G, G = unk (t.nms.all f) := ⟨_, rfl⟩
  rw [← hG]
  have HG := Lib.hid hG
  clear h hK hk hin hm hf hG
  unfold Tm.val Tm.vals at *
  go_enter Tryz.func157, Tryz.ntmps157
  unfold Tm.box Tm.vals at hWA
  go_upto_region 1 with fail
  rw [← hWA]
  clear hWA
  obtain ⟨x0, x1, x2, x3, x4⟩ := Tm.cells HBX.out
  go_wp2_with fail
  refine HN.out.mono ?_
  rintro y w1 ⟨ao, cp, l, rfl, hsr, hri, hmem, b1⟩
  have hfew := names_few HM.out hri hmem
  have hlong : ∀ k ∈ l, k.length ≤ maxLen := fun k hk2 => nms_long HM.out k ((hmem k).1 hk2)
  have hsame : l.all f = t.nms.all f := by
    rw [Bool.eq_iff_iff, List.all_eq_true, List.all_eq_true]
    exact ⟨fun hh k hk2 => hh k ((hmem k).2 hk2), fun hh k hk2 => hh k ((hmem k).1 hk2)⟩
  have hss := HS.out w1 b1 l ao cp hsr (by omega) hlong
  rw [hsame, ← HG.out] at hss
  have HSS := Lib.hid hss
  have HB1 := Lib.hid (Trm.go HBA.out b1)
  clear hsr hri hmem b1 hfew hlong hsame hss x0 x1 x2 x3 x4
  go_wp2_with fail
  refine HSS.out.mono ?_
  rintro y w' ⟨rfl, rfl⟩
  go_wp2_with fail
  go_ret
  exact ⟨rfl, HB1.out⟩

namespace Env
/-- The first that is not 0. -/
def firstE {α : Type} (f : α → Int) (l : List α) : Int := match l.find? (fun x => !(f x == 0)) with
  | none => 0
  | some x => f x
theorem firstE_zero {α : Type} {f : α → Int} {l : List α} (h : ∀ j (hj : j < l.length), f l[j] = 0) : firstE f l = 0 := by
  unfold firstE
  have : l.find? (fun x => !(f x == 0)) = none := by
    rw [List.find?_eq_none]
    intro x hx
    obtain ⟨j, hj, rfl⟩ := List.getElem_of_mem hx
    simp [h j hj]
  rw [this]
theorem firstE_at {α : Type} {f : α → Int} : ∀ {l : List α} {k : Nat} (hk : k < l.length), (∀ j (hj : j < l.length), j < k → f l[j] = 0) → f l[k] ≠ 0 → firstE f l = f l[k]
  | [], k, hk, _, _ => by simp at hk
  | a :: r, 0, _, _, h => by
    unfold firstE
    simp only [List.getElem_cons_zero] at h
    simp [h]
  | a :: r, k + 1, hk, ha, h => by
    have h0 : f a = 0 := ha 0 (by simp) (by omega)
    have hr := firstE_at (f := f) (l := r) (k := k) (by simpa using hk) (fun j hj hjk => ha (j + 1) (by simpa using hj) (by omega)) (by simpa using h)
    unfold firstE at hr ⊢
    simp only [List.find?_cons, h0, BEq.rfl, Bool.not_true, List.getElem_cons_succ]
    exact hr
def StRel (w : World) (f : Tm → Int) (l : List Tm) (i : Value) (wr : World) : Prop := ∃ k : Nat, i = .int .i64 k ∧ k ≤ l.length ∧ (∀ j (h : j < l.length), j < k → f l[j] = 0) ∧ Below w.heap.size w wr
def OVar (w : World) (KB : Nat) (n : Nat) : Prop := ∃ bo bc, w.heap[KB]? = some (.cells #[.slice bo n bc] 24) ∧ LRow w bo (parL n) ∧ Low w.heap.size bo n ∧ n ≤ bc ∧ n ≤ 4
theorem OVar.below {w w' : World} {KB n : Nat} (h : OVar w KB n) (b : Below w.heap.size w w') : OVar w' KB n := by
  obtain ⟨bo, bc, h1, h2, h3, h4⟩ := h
  exact ⟨bo, bc, (b.block _ (Array.getElem?_eq_some_iff.1 h1).1).trans h1, h2.below b, Low.mono h3 b.size, h4⟩
end Env

set_option maxRecDepth 100000 in
set_option maxHeartbeats 1000000 in
theorem closed_any {w : World} {KB m : Nat} (h : OVar w KB m) (n : Int) (t : Tm) (ht : Hd) (hin : t.In w.heap.size w ht) :
    Calls Tryz.prog 155 #[.int .i64 n, t.val ht, .pointer (some ⟨KB, 0, none⟩)] w fun y w' => y = .returned (.int .i64 (openE t m)) ∧ Below w.heap.size w w' := by
  obtain ⟨bo, bc, h1, h2, h3, h4, h5⟩ := h
  obtain ⟨WA, hWA⟩ : ∃ WA, WA = w.alloc (t.box ht) := ⟨_, rfl⟩
  have HBA := Lib.hid (show Below w.heap.size w WA from hWA ▸ below_one _ _)
  have HBX := Lib.hid (show WA.heap[w.heap.size]? = some (t.box ht) from hWA ▸ World.alloc_heap_new w _)
  have cK := one_cellE ((HBA.out.block _ (Array.getElem?_eq_some_iff.1 h1).1).trans h1)
  have HO := Lib.hid (open_any t ht m bo bc WA (carry hin HBA.out) (h2.below HBA.out) (Low.mono h3 HBA.out.size) h4 h5)
  obtain ⟨G, hG⟩ : ∃ G, G = openE t m := ⟨_, rfl⟩
  rw [← hG] at HO ⊢
  clear h1 h2 h3 h4 h5 hin hG
  unfold Tm.val Tm.vals at *
  go_enter Tryz.func155, Tryz.ntmps155
  unfold Tm.box Tm.vals at hWA
  go_upto_region 1 with fail
  rw [← hWA]
  clear hWA
  obtain ⟨x0, x1, x2, x3, x4⟩ := Tm.cells HBX.out
  go_wp2_with fail
  refine HO.out.mono ?_
  rintro y w1 ⟨rfl, b1⟩
  have HB := Lib.hid (Trm.go HBA.out b1)
  clear b1
  go_wp2_with fail
  go_ret
  exact ⟨rfl, HB.out⟩

set_option maxRecDepth 100000 in
set_option maxHeartbeats 4000000 in
theorem searchO_any {w : World} {KB : Nat} {m : Nat} (h : OVar w KB m) (l : List Tm) (ao : Option Addr) (cp : Nat) (hr : RowIn w.heap.size w ao 0 l) (hl : l.length ≤ 1000000) :
    Calls Tryz.prog 154 #[.slice ao l.length cp, .func (.func 155) #[] #[.pointer (some ⟨KB, 0, none⟩)]] w fun y w' => y = .returned (.int .i64 (firstE (fun t => openE t m) l)) ∧ Below w.heap.size w w' := by
  have HU := Lib.hid (fun (W : World) (hW : Below w.heap.size w W) (n : Int) (t : Tm) (ht : Hd) (hmem : t ∈ l) (hin : t.In W.heap.size W ht) => (show Calls Tryz.prog 155 #[.int .i64 n, t.val ht, .pointer (some ⟨KB, 0, none⟩)] W fun y w' => y = .returned (.int .i64 ((fun t => openE t m) t)) ∧ Below W.heap.size W w' from closed_any (h.below hW) n t ht hin))
  have HR := Lib.hid hr
  have HL := Lib.hid hl
  obtain ⟨f, hf⟩ : ∃ f : Tm → Int, f = (fun t => openE t m) := ⟨_, rfl⟩
  rw [← hf] at HU ⊢
  obtain ⟨G, hG⟩ : ∃ G, G = firstE f l := ⟨_, rfl⟩
  rw [← hG]
  have HG := Lib.hid hG
  clear h hr hl hf hG
  go_enter Tryz.func154, Tryz.ntmps154
  go_wp2_with fail
  go_loopw [10] (fun i wr => StRel w f l i wr) (fun i _ => l.length - (intOf i).toNat)
  case atStart => exact ⟨0, rfl, by omega, fun j _ hj => by omega, Below.refl _ _⟩
  case round =>
    obtain ⟨k, rfl, hk, hall, hbel⟩ := hrel
    have HALL := Lib.hid hall
    have HBEL := Lib.hid hbel
    clear hall hbel
    by_cases hlt : k < l.length
    · obtain ⟨b, off, hao, hb, hd, hc, hin⟩ := (Trm.RowIn.below HR.out HBEL.out).place k hlt
      rw [Nat.zero_add] at hc
      obtain ⟨c0, c1, c2, c3, c4⟩ := hc
      subst hao
      have HIN := Lib.hid (Tm.In.mono HBEL.out.size _ _ hin)
      have HNO : Hid (f l[k] ≠ 0 → f l[k] = G) := Lib.hid (fun hh => by rw [HG.out]; exact (firstE_at hlt HALL.out hh).symm)
      have HYE : Hid (f l[k] = 0 → ∀ j (h : j < l.length), j < k + 1 → f l[j] = 0) := Lib.hid (fun hh j hj hjk => by
        by_cases e : j = k
        · subst e; exact hh
        · exact HALL.out j hj (by omega))
      have HMEM := Lib.hid (List.getElem_mem hlt)
      obtain ⟨t, hte⟩ : ∃ t, t = l[k] := ⟨_, rfl⟩
      rw [← hte] at c0 c1 c2 c3 c4 HIN HNO HYE HMEM
      have HLT := Lib.hid hlt
      obtain ⟨WA, hWA⟩ : ∃ WA, WA = wr.alloc (t.box hd) := ⟨_, rfl⟩
      have HBA := Lib.hid (show Below wr.heap.size wr WA from hWA ▸ below_one _ _)
      have HBX := Lib.hid (show WA.heap[wr.heap.size]? = some (t.box hd) from hWA ▸ World.alloc_heap_new wr _)
      have HBW := Lib.hid (Trm.go HBEL.out HBA.out)
      have HUK := Lib.hid (HU.out WA HBW.out k t hd HMEM.out (carry HIN.out HBA.out))
      obtain ⟨z, hz⟩ : ∃ z, z = f t := ⟨_, rfl⟩
      rw [← hz] at HUK HNO HYE
      unfold Tm.val Tm.vals at HUK
      unfold Tm.box Tm.vals at hWA
      clear hte hin hz
      go_upto_region 4 with fail
      rw [← hWA]
      clear hWA c0 c1 c2 c3 c4
      obtain ⟨x0, x1, x2, x3, x4⟩ := Tm.cells HBX.out
      go_wp2_with fail
      refine HUK.out.mono ?_
      rintro e w2 ⟨rfl, b2⟩
      have HB2 := Lib.hid (Trm.go HBW.out b2)
      clear b2 x0 x1 x2 x3 x4 HUK
      by_cases hz0 : z = 0
      · subst hz0
        have HE := Lib.hid (HYE.out rfl)
        have hwk : wrap64 ((k : Int) + 1) = (k : Int) + 1 := IntWalk.wrap64_in _ (by have := HL.out; omega)
        go_wp2_with fail
        go_roundw
        case rel => exact ⟨k + 1, by rw [hwk]; rfl, HLT.out, HE.out, HB2.out⟩
        case measure => exact less_step hwk HLT.out
      · have HE := Lib.hid (HNO.out hz0)
        have hz1 : (z == 0) = false := by simpa using hz0
        go_wp2_with fail
        go_ret
        exact ⟨by rw [← HE.out]; rfl, HB2.out⟩
    · have HE : Hid ((0 : Int) = G) := Lib.hid (by
        rw [HG.out]
        exact (firstE_zero fun j hj => HALL.out j hj (by omega)).symm)
      go_wp2_with fail
      go_ret
      exact ⟨by rw [← HE.out]; rfl, HBEL.out⟩

set_option maxRecDepth 100000 in
set_option maxHeartbeats 4000000 in
theorem searchN_any {w : World} {KB : Nat} {B P E I X e i : Nat} {L : List Ent} {ks : List (List UInt8)} {x : Inf} (h : KCtx B w P E I X e L ks i x) (hK : KVar w KB P E I X) (hk : ks.length ≤ 1000000) (l : List Tm) (ao : Option Addr) (cp : Nat) (hr : RowIn w.heap.size w ao 0 l) (hl : l.length ≤ 1000000) (hmay : ∀ t ∈ l, t.may = true) :
    Calls Tryz.prog 154 #[.slice ao l.length cp, .func (.func 157) #[] #[.pointer (some ⟨KB, 0, none⟩)]] w fun y w' => y = .returned (.int .i64 (firstE (fun t => unk (t.nms.all (known L ks i x.hv))) l)) ∧ Below w.heap.size w w' := by
  have HU := Lib.hid (fun (W : World) (hW : Below w.heap.size w W) (n : Int) (t : Tm) (ht : Hd) (hmem : t ∈ l) (hin : t.In W.heap.size W ht) => (show Calls Tryz.prog 157 #[.int .i64 n, t.val ht, .pointer (some ⟨KB, 0, none⟩)] W fun y w' => y = .returned (.int .i64 ((fun t => unk (t.nms.all (known L ks i x.hv))) t)) ∧ Below W.heap.size W w' from namesKnown_any (h.below hW) (hK.below hW) hk n t ht hin (hmay t hmem)))
  have HR := Lib.hid hr
  have HL := Lib.hid hl
  obtain ⟨f, hf⟩ : ∃ f : Tm → Int, f = (fun t => unk (t.nms.all (known L ks i x.hv))) := ⟨_, rfl⟩
  rw [← hf] at HU ⊢
  obtain ⟨G, hG⟩ : ∃ G, G = firstE f l := ⟨_, rfl⟩
  rw [← hG]
  have HG := Lib.hid hG
  clear h hK hk hmay hr hl hf hG
  go_enter Tryz.func154, Tryz.ntmps154
  go_wp2_with fail
  go_loopw [10] (fun i wr => StRel w f l i wr) (fun i _ => l.length - (intOf i).toNat)
  case atStart => exact ⟨0, rfl, by omega, fun j _ hj => by omega, Below.refl _ _⟩
  case round =>
    obtain ⟨k, rfl, hk, hall, hbel⟩ := hrel
    have HALL := Lib.hid hall
    have HBEL := Lib.hid hbel
    clear hall hbel
    by_cases hlt : k < l.length
    · obtain ⟨b, off, hao, hb, hd, hc, hin⟩ := (Trm.RowIn.below HR.out HBEL.out).place k hlt
      rw [Nat.zero_add] at hc
      obtain ⟨c0, c1, c2, c3, c4⟩ := hc
      subst hao
      have HIN := Lib.hid (Tm.In.mono HBEL.out.size _ _ hin)
      have HNO : Hid (f l[k] ≠ 0 → f l[k] = G) := Lib.hid (fun hh => by rw [HG.out]; exact (firstE_at hlt HALL.out hh).symm)
      have HYE : Hid (f l[k] = 0 → ∀ j (h : j < l.length), j < k + 1 → f l[j] = 0) := Lib.hid (fun hh j hj hjk => by
        by_cases e : j = k
        · subst e; exact hh
        · exact HALL.out j hj (by omega))
      have HMEM := Lib.hid (List.getElem_mem hlt)
      obtain ⟨t, hte⟩ : ∃ t, t = l[k] := ⟨_, rfl⟩
      rw [← hte] at c0 c1 c2 c3 c4 HIN HNO HYE HMEM
      have HLT := Lib.hid hlt
      obtain ⟨WA, hWA⟩ : ∃ WA, WA = wr.alloc (t.box hd) := ⟨_, rfl⟩
      have HBA := Lib.hid (show Below wr.heap.size wr WA from hWA ▸ below_one _ _)
      have HBX := Lib.hid (show WA.heap[wr.heap.size]? = some (t.box hd) from hWA ▸ World.alloc_heap_new wr _)
      have HBW := Lib.hid (Trm.go HBEL.out HBA.out)
      have HUK := Lib.hid (HU.out WA HBW.out k t hd HMEM.out (carry HIN.out HBA.out))
      obtain ⟨z, hz⟩ : ∃ z, z = f t := ⟨_, rfl⟩
      rw [← hz] at HUK HNO HYE
      unfold Tm.val Tm.vals at HUK
      unfold Tm.box Tm.vals at hWA
      clear hte hin hz
      go_upto_region 4 with fail
      rw [← hWA]
      clear hWA c0 c1 c2 c3 c4
      obtain ⟨x0, x1, x2, x3, x4⟩ := Tm.cells HBX.out
      go_wp2_with fail
      refine HUK.out.mono ?_
      rintro e w2 ⟨rfl, b2⟩
      have HB2 := Lib.hid (Trm.go HBW.out b2)
      clear b2 x0 x1 x2 x3 x4 HUK
      by_cases hz0 : z = 0
      · subst hz0
        have HE := Lib.hid (HYE.out rfl)
        have hwk : wrap64 ((k : Int) + 1) = (k : Int) + 1 := IntWalk.wrap64_in _ (by have := HL.out; omega)
        go_wp2_with fail
        go_roundw
        case rel => exact ⟨k + 1, by rw [hwk]; rfl, HLT.out, HE.out, HB2.out⟩
        case measure => exact less_step hwk HLT.out
      · have HE := Lib.hid (HNO.out hz0)
        have hz1 : (z == 0) = false := by simpa using hz0
        go_wp2_with fail
        go_ret
        exact ⟨by rw [← HE.out]; rfl, HB2.out⟩
    · have HE : Hid ((0 : Int) = G) := Lib.hid (by
        rw [HG.out]
        exact (firstE_zero fun j hj => HALL.out j hj (by omega)).symm)
      go_wp2_with fail
      go_ret
      exact ⟨by rw [← HE.out]; rfl, HBEL.out⟩
end Go.Proofs.YtiekbhlnnmnklaaGreat


namespace Go.Proofs.YtiekbhlnnmnklaaGreat
open Go.RowKit Go.Shelf Go.Maps Lvl Trm Env

namespace Env
/-- The first error of the terms of an info over n parameters. -/
noncomputable def wrongT (L : List Ent) (ks : List (List UInt8)) (i n : Nat) (x : Inf) : Int :=
  if firstE (fun t => openE t n) x.terms = 0 then firstE (fun t => unk (t.nms.all (known L ks i x.hv))) x.terms else firstE (fun t => openE t n) x.terms
theorem firstE_all {α : Type} {f : α → Int} {l : List α} (h : 0 = firstE f l) : ∀ x ∈ l, f x = 0 := by
  unfold firstE at h
  split at h
  · rename_i hn
    rw [List.find?_eq_none] at hn
    intro x hx
    have := hn x hx
    simpa using this
  · rename_i x hs
    have := List.find?_some hs
    simp [← h] at this
theorem open_may {l : List Tm} {n : Nat} (h : 0 = firstE (fun t => openE t n) l) : ∀ t ∈ l, t.may = true := fun t ht => by
  have h1 : openE t n = 0 := firstE_all h t ht
  unfold openE at h1
  split at h1
  · rename_i hc
    exact hc.1
  · omega
theorem set_ranE {P : Nat → Prop} (w : World) (b i : Nat) (v : Value) (hP : P b) : RanS P w (w.setCell ⟨b, i, none⟩ v) :=
  ⟨rfl, rfl, rfl, by simp, fun k _ hk => RowKit.Below.heap_setCell _ _ _ _ (fun e => hk (e ▸ hP))⟩
theorem cells_setE {w : World} {b i : Nat} {C : Array Value} {ty : TypeId} {fr : Nat × Nat} (h : w.heap[b]? = some (.cells C ty fr)) (v : Value) : (w.setCell ⟨b, i, none⟩ v).heap[b]? = some (.cells (C.setIfInBounds i v) ty fr) := by
  simp [World.setCell, Array.getElem?_modify, h]
theorem ovar_new {w : World} {n g : Nat} (hr : LRow w (some ⟨g, 0, none⟩) (parL n)) (hg : g < w.heap.size) (hn : n ≤ 4) : OVar (w.alloc (.cells #[.slice (some ⟨g, 0, none⟩) n n] 24)) w.heap.size n :=
  ⟨_, _, World.alloc_heap_new _ _, hr.below (below_one _ _), fun _ a ha => by injection ha with ha; subst ha; rw [World.size_alloc]; show g < w.heap.size + 1; omega, Nat.le_refl _, hn⟩
theorem ovar_put {w3 : World} {n g X : Nat} (hX : w3.heap[X]? = some (.cells #[.slice none 0 0] 24)) (hr : LRow w3 (some ⟨g, 0, none⟩) (parL n)) (hg : g < w3.heap.size) (hne : X ≠ g) (hn : n ≤ 4) : OVar (w3.setCell ⟨X, 0, none⟩ (.slice (some ⟨g, 0, none⟩) n n)) X n := by
  refine ⟨_, _, by have := cells_setE (i := 0) hX (.slice (some ⟨g, 0, none⟩) n n); simpa using this, ⟨fun k hk => ?_⟩, fun _ a ha => by injection ha with ha; subst ha; show g < (w3.setCell _ _).heap.size; rw [World.size_setCell]; exact hg, Nat.le_refl _, hn⟩
  obtain ⟨b, off, hao, ha⟩ := hr.place k hk
  have hb : b = g := by injection hao with e; injection e with e _ _; exact e.symm
  subst hb
  obtain ⟨a0, a1, a2, a3, a4⟩ := ha
  have key : ∀ j, (w3.setCell ⟨X, 0, none⟩ (.slice (some ⟨b, 0, none⟩) n n)).cell? ⟨b, j, none⟩ = w3.cell? ⟨b, j, none⟩ := fun j => World.cell?_setCell_other _ _ _ _ (by intro e; injection e with e1 _ _; exact hne e1)
  exact ⟨b, off, hao, (key _).trans a0, (key _).trans a1, (key _).trans a2, (key _).trans a3, (key _).trans a4⟩
theorem rowEnd {B b0 : Nat} {w2 W6 : World} {ao : Option Addr} {L : List Tm} (h : RowB B b0 w2 ao L) (hr : RanS (fun q => B ≤ q ∧ q < b0) w2 W6) (hB : B ≤ w2.heap.size) : RowIn W6.heap.size W6 ao 0 L := (h.ran hr (fun _ h => h) hB).rowIn (Nat.le_trans hB hr.size)
theorem below_setE {B : Nat} {w w3 : World} {vb : Nat} (h : Below B w w3) (hv : B ≤ vb) (hB : B ≤ w3.heap.size) (u : Value) : Below B w (w3.setCell ⟨vb, 0, none⟩ u) :=
  h.trans ((set_ranE (P := fun q => q = vb) w3 vb 0 u rfl).below (fun q e => by rw [e]; exact hv) hB)
end Env

set_option maxRecDepth 100000 in
set_option maxHeartbeats 8000000 in
theorem wrongTerms_any {B : Nat} {w : World} {P E I X e i n : Nat} {L : List Ent} {ks : List (List UInt8)} {x : Inf} {hd : IHd} (h : KCtx B w P E I X e L ks i x) (hX : IBox w X x hd) (hin : x.In w.heap.size w hd) (hk : ks.length ≤ 1000000) (hr : x.rules.length ≤ 1000) (hp : x.params = (n : Int)) (hn : n ≤ 4) :
    Calls Tryz.prog 106 #[.pointer (some ⟨X, 0, none⟩), fnK P E I X] w fun y w' => y = .returned (.int .i64 (wrongT L ks i n x)) ∧ Below w.heap.size w w' := by
  obtain ⟨G, hG⟩ : ∃ G, G = wrongT L ks i n x := ⟨_, rfl⟩
  rw [← hG]
  have HG := Lib.hid hG
  obtain ⟨WA, hWA⟩ : ∃ WA, WA = w.alloc (.cells #[fnK P E I X] 148) := ⟨_, rfl⟩
  have HBA := Lib.hid (show Below w.heap.size w WA from hWA ▸ below_one _ _)
  have HK := Lib.hid (show KVar WA w.heap.size P E I X from hWA ▸ World.alloc_heap_new w _)
  have HCTX := Lib.hid (h.below HBA.out)
  have HKS := Lib.hid hk
  have HN4 := Lib.hid hn
  have HTL : Hid (x.terms.length ≤ 1000000) := Lib.hid (by unfold Inf.terms; simp; split <;> simp <;> omega)
  have HT := Lib.hid (fun (W : World) (hW : Below WA.heap.size WA W) => termsOf_any (B := WA.heap.size) (hX.keep (Trm.go HBA.out hW)) ((Inf.carry hin HBA.out).below hW) hW.size hr)
  have HC2 := Lib.hid (fun (W : World) (hW : Below WA.heap.size WA W) => (show W.cell? ⟨X, 2, none⟩ = some (.int .i64 n) from by rw [← hp]; exact (hX.keep (Trm.go HBA.out hW)).cell 2))
  clear h hX hin hk hr hp hn hG
  unfold fnK at hWA ⊢
  go_enter Tryz.func106, Tryz.ntmps106
  go_upto_region 1 with fail
  rw [← hWA]
  clear hWA
  refine wp_region_held_drew (S := fun w' => w'.cell? ⟨X, 2, none⟩ = some (.int .i64 n)) (by kernel_rfl) (HC2.out _ (Below.refl _ _).drew) (fun hHeld => ?_)
  refine wpAnyH_take (i := 0) (v := ?va0) rfl (by kernel_rfl) (by kernel_rfl) (by kernel_rfl) (fun _ _ _ h => h) (Or.inl ⟨by rfl, ?hya0⟩) (by assumption) ?resta0
  case hya0 => (intro w' hSw; (try dsimp only at hSw); go_simp <;> with_reducible rfl)
  try simp only [List.getElem_toArray, List.getElem_cons_zero, Act.put, List.setIfInBounds_toArray, List.set_cons_zero, List.set_cons_succ]
  refine wpAnyH_take (i := 2) (v := ?va2) rfl (by kernel_rfl) (by kernel_rfl) (by kernel_rfl) (fun _ _ _ h => h) (Or.inl ⟨by rfl, ?hya2⟩) (by assumption) ?resta2
  case hya2 => (intro w' hSw; (try dsimp only at hSw); go_simp <;> with_reducible rfl)
  try simp only [List.getElem_toArray, List.getElem_cons_succ, List.getElem_cons_zero, Act.put, List.setIfInBounds_toArray, List.set_cons_zero, List.set_cons_succ]
  refine wpAnyH_take (i := 3) (v := ?va3) rfl (by kernel_rfl) (by kernel_rfl) (by kernel_rfl) (fun _ _ _ h => h) (Or.inl ⟨by rfl, ?hya3⟩) (by assumption) ?resta3
  case hya3 => (intro w' hSw; (try dsimp only at hSw); go_simp <;> with_reducible rfl)
  try simp only [List.getElem_toArray, List.getElem_cons_succ, List.getElem_cons_zero, Act.put, List.setIfInBounds_toArray, List.set_cons_zero, List.set_cons_succ]
  refine wpAnyH_take (i := 4) (v := ?va4) rfl (by kernel_rfl) (by kernel_rfl) (by kernel_rfl) (fun _ _ _ h => h) (Or.inl ⟨by rfl, ?hya4⟩) (by assumption) ?resta4
  case hya4 => (intro w' hSw; (try dsimp only at hSw); go_simp <;> with_reducible rfl)
  try simp only [List.getElem_toArray, List.getElem_cons_succ, List.getElem_cons_zero, Act.put, List.setIfInBounds_toArray, List.set_cons_zero, List.set_cons_succ]
  refine wpAnyH_take (i := 5) (v := ?va5) rfl (by kernel_rfl) (by kernel_rfl) (by kernel_rfl) (fun _ _ _ h => h) (Or.inl ⟨by rfl, ?hya5⟩) (by assumption) ?resta5
  case hya5 => (intro w' hSw; (try dsimp only at hSw); go_simp <;> with_reducible rfl)
  try simp only [List.getElem_toArray, List.getElem_cons_succ, List.getElem_cons_zero, Act.put, List.setIfInBounds_toArray, List.set_cons_zero, List.set_cons_succ]
  refine wpAnyH_ready (rs := [1, 7]) (by kernel_rfl) (by simp) ?_
  refine AllReadyH.cons rfl (fun K hK => ?_) (AllReadyH.cons rfl (fun K hK => ?_) AllReadyH.nil)
  · go_simp
    refine (HT.out (WA.drew) ((Below.refl _ _).drew)).mono ?_
    rintro y w2 ⟨ao, cp, rfl, hri, bT⟩
    have Bw2 := Lib.hid (show Below WA.heap.size WA w2 from Lvl.undrew bT)
    have HRI := Lib.hid hri
    clear hri
    refine hK.out _ _ (HC2.out _ Bw2.out) (fun hHeld => ?_)
    clear hK K
    try simp only [List.getElem_toArray, List.getElem_cons_succ, List.getElem_cons_zero, Act.put, List.setIfInBounds_toArray, List.set_cons_zero, List.set_cons_succ]
    refine wpAnyH_ready (rs := [6, 7]) (by kernel_rfl) (by simp) ?_
    refine AllReadyH.cons rfl (fun K hK => ?_) (AllReadyH.cons rfl (fun K hK => ?_) AllReadyH.nil)
    · go_simp
      refine (envParams_any n HN4.out (w2)).mono ?_
      rintro y w3 ⟨g, rfl, hrow, hge, hgl, bP⟩
      have Bw3 := Lib.hid (show Below WA.heap.size WA w3 from Trm.go Bw2.out bP)
      have HROW := Lib.hid hrow
      have HGL := Lib.hid hgl
      have HBP := Lib.hid bP
      clear hrow hgl bP hge
      refine hK.out _ _ (HC2.out _ Bw3.out) (fun hHeld => ?_)
      clear hK K
      try simp only [List.getElem_toArray, List.getElem_cons_succ, List.getElem_cons_zero, Act.put, List.setIfInBounds_toArray, List.set_cons_zero, List.set_cons_succ]
      refine wpAnyH_ready (rs := [7]) (by kernel_rfl) (by simp) ?_
      refine AllReadyH.cons rfl (fun K hK => ?_) AllReadyH.nil
      go_simp
      refine hK.out _ _ (HC2.out _ (Trm.go Bw3.out (below_one _ _))) (fun hHeld => ?_)
      clear hK K
      try simp only [List.getElem_toArray, List.getElem_cons_succ, List.getElem_cons_zero, Act.put, List.setIfInBounds_toArray, List.set_cons_zero, List.set_cons_succ]
      refine wpAnyH_take (i := 8) (v := ?vc8) rfl (by kernel_rfl) (by kernel_rfl) (by kernel_rfl) (fun _ _ _ h => h) (Or.inl ⟨by rfl, ?hyc8⟩) (by assumption) ?restc8
      case hyc8 => (intro w' hSw; (try dsimp only at hSw); go_simp <;> with_reducible rfl)
      try simp only [List.getElem_toArray, List.getElem_cons_succ, List.getElem_cons_zero, Act.put, List.setIfInBounds_toArray, List.set_cons_zero, List.set_cons_succ]
      refine wpAnyH_ready (rs := [9]) (by kernel_rfl) (by simp) ?_
      refine AllReadyH.cons rfl (fun K hK => ?_) AllReadyH.nil
      go_simp
      refine hK.out _ _ (HC2.out _ (Trm.go Bw3.out (below_one _ _))) (fun hHeld => ?_)
      clear hK K
      try simp only [List.getElem_toArray, List.getElem_cons_succ, List.getElem_cons_zero, Act.put, List.setIfInBounds_toArray, List.set_cons_zero, List.set_cons_succ]
      refine wpAnyH_done (by kernel_rfl) ?_ _
      obtain ⟨W6, hW6⟩ : ∃ x : World, x = w3.alloc (.cells #[.slice (some ⟨g, 0, none⟩) n n] 24) := ⟨_, rfl⟩
      have HOV : Hid (OVar W6 w3.heap.size n) := Lib.hid (by rw [hW6]; exact ovar_new HROW.out HGL.out HN4.out)
      have HR6 : Hid (RowIn W6.heap.size W6 ao 0 x.terms) := Lib.hid (by rw [hW6]; exact rowEnd HRI.out (RanS.of_below (Trm.go HBP.out (below_one _ _))) Bw2.out.size)
      have HB6 : Hid (Below WA.heap.size WA W6) := Lib.hid (by rw [hW6]; exact Trm.go Bw3.out (below_one _ _))
      rw [← hW6]
      clear hW6
      have HSO := Lib.hid (searchO_any HOV.out x.terms ao cp HR6.out HTL.out)
      obtain ⟨z, hz⟩ : ∃ z, z = firstE (fun t => openE t n) x.terms := ⟨_, rfl⟩
      rw [← hz] at HSO
      have HZ := Lib.hid hz
      clear hz
      have cK3 := one_cellE (HK.out.below HB6.out)
      unfold fnK at cK3
      go_wp2_with fail
      refine HSO.out.mono ?_
      rintro y w7 ⟨rfl, b7⟩
      have HB7 := Lib.hid (Trm.go HB6.out b7)
      have HR7 := Lib.hid (carryRow HR6.out b7)
      clear b7 HSO cK3
      by_cases hz0 : z = 0
      · subst hz0
        have hmay : ∀ t ∈ x.terms, t.may = true := open_may HZ.out
        have hsn := searchN_any (HCTX.out.below HB7.out) (HK.out.below HB7.out) HKS.out x.terms ao cp HR7.out HTL.out hmay
        obtain ⟨q, hq⟩ : ∃ q, q = firstE (fun t => unk (t.nms.all (known L ks i x.hv))) x.terms := ⟨_, rfl⟩
        rw [← hq] at hsn
        have HSN := Lib.hid hsn
        have HE : Hid (q = G) := Lib.hid (by rw [HG.out, hq]; unfold wrongT; rw [if_pos HZ.out.symm])
        clear hmay hsn hq
        go_wp2_with fail
        refine HSN.out.mono ?_
        rintro y w8 ⟨rfl, b8⟩
        have HB8 := Lib.hid (Trm.go HBA.out (Trm.go HB7.out b8))
        clear b8
        go_wp2_with fail
        go_ret
        exact ⟨by rw [← HE.out]; rfl, HB8.out⟩
      · have HE : Hid (z = G) := Lib.hid (by rw [HG.out, HZ.out]; unfold wrongT; rw [if_neg (fun h => hz0 (by rw [HZ.out]; exact h))])
        have hz1 : (z == 0) = false := by simpa using hz0
        have HB8 := Lib.hid (Trm.go HBA.out HB7.out)
        go_wp2_with fail
        go_ret
        exact ⟨by rw [← HE.out]; rfl, HB8.out⟩
    · go_simp
      refine hK.out _ _ (HC2.out _ (Trm.go Bw2.out (below_one _ _))) (fun hHeld => ?_)
      clear hK K
      try simp only [List.getElem_toArray, List.getElem_cons_succ, List.getElem_cons_zero, Act.put, List.setIfInBounds_toArray, List.set_cons_zero, List.set_cons_succ]
      refine wpAnyH_ready (rs := [6]) (by kernel_rfl) (by simp) ?_
      refine AllReadyH.cons rfl (fun K hK => ?_) AllReadyH.nil
      go_simp
      refine (envParams_any n HN4.out (w2.alloc (.cells #[.slice none 0 0] 24))).mono ?_
      rintro y w3 ⟨g, rfl, hrow, hge, hgl, bP⟩
      have Bw3 := Lib.hid (show Below WA.heap.size WA w3 from Trm.go (Trm.go Bw2.out (below_one w2 (.cells #[.slice none 0 0] 24))) bP)
      have HNE := Lib.hid (show w2.heap.size ≠ g from fun e => by rw [World.size_alloc] at hge; omega)
      have HROW := Lib.hid hrow
      have HGL := Lib.hid hgl
      have HBP := Lib.hid bP
      clear hrow hgl bP hge
      refine hK.out _ _ (HC2.out _ Bw3.out) (fun hHeld => ?_)
      clear hK K
      try simp only [List.getElem_toArray, List.getElem_cons_succ, List.getElem_cons_zero, Act.put, List.setIfInBounds_toArray, List.set_cons_zero, List.set_cons_succ]
      have hz := (HBP.out.block w2.heap.size (by rw [World.size_alloc]; omega)).trans (World.alloc_heap_new w2 (.cells #[.slice none 0 0] 24))
      have HZZ := Lib.hid hz
      have cz := one_cellE hz
      have fz : w3.frozen? ⟨w2.heap.size, 0, none⟩ = false := by simp [World.frozen?, hz]
      clear hz
      refine wpAnyH_take (i := 8) (v := ?vdBww8) rfl (by kernel_rfl) (by kernel_rfl) (by kernel_rfl) (fun _ _ _ h => h) (Or.inl ⟨by rfl, ?hydBww8⟩) (by assumption) ?restdBww8
      case hydBww8 => (intro w' hSw; (try dsimp only at hSw); go_simp <;> with_reducible rfl)
      try simp only [List.getElem_toArray, List.getElem_cons_succ, List.getElem_cons_zero, Act.put, List.setIfInBounds_toArray, List.set_cons_zero, List.set_cons_succ]
      refine wpAnyH_ready (rs := [9]) (by kernel_rfl) (by simp) ?_
      refine AllReadyH.cons rfl (fun K hK => ?_) AllReadyH.nil
      go_simp
      refine hK.out _ _ (HC2.out _ (below_setE Bw3.out Bw2.out.size Bw3.out.size _)) (fun hHeld => ?_)
      clear hK K
      try simp only [List.getElem_toArray, List.getElem_cons_succ, List.getElem_cons_zero, Act.put, List.setIfInBounds_toArray, List.set_cons_zero, List.set_cons_succ]
      refine wpAnyH_done (by kernel_rfl) ?_ _
      clear cz fz
      obtain ⟨W6, hW6⟩ : ∃ x : World, x = w3.setCell ⟨w2.heap.size, 0, none⟩ (.slice (some ⟨g, 0, none⟩) n n) := ⟨_, rfl⟩
      have HOV : Hid (OVar W6 w2.heap.size n) := Lib.hid (by rw [hW6]; exact ovar_put HZZ.out HROW.out HGL.out HNE.out HN4.out)
      have HR6 : Hid (RowIn W6.heap.size W6 ao 0 x.terms) := Lib.hid (by rw [hW6]; exact rowEnd HRI.out (RanS.of_below (below_setE (Trm.go (below_one w2 (.cells #[.slice none 0 0] 24)) HBP.out) (Nat.le_refl _) (Trm.go (below_one w2 (.cells #[.slice none 0 0] 24)) HBP.out).size _)) Bw2.out.size)
      have HB6 : Hid (Below WA.heap.size WA W6) := Lib.hid (by rw [hW6]; exact below_setE Bw3.out Bw2.out.size Bw3.out.size _)
      rw [← hW6]
      clear hW6
      have HSO := Lib.hid (searchO_any HOV.out x.terms ao cp HR6.out HTL.out)
      obtain ⟨z, hz⟩ : ∃ z, z = firstE (fun t => openE t n) x.terms := ⟨_, rfl⟩
      rw [← hz] at HSO
      have HZ := Lib.hid hz
      clear hz
      have cK3 := one_cellE (HK.out.below HB6.out)
      unfold fnK at cK3
      go_wp2_with fail
      refine HSO.out.mono ?_
      rintro y w7 ⟨rfl, b7⟩
      have HB7 := Lib.hid (Trm.go HB6.out b7)
      have HR7 := Lib.hid (carryRow HR6.out b7)
      clear b7 HSO cK3
      by_cases hz0 : z = 0
      · subst hz0
        have hmay : ∀ t ∈ x.terms, t.may = true := open_may HZ.out
        have hsn := searchN_any (HCTX.out.below HB7.out) (HK.out.below HB7.out) HKS.out x.terms ao cp HR7.out HTL.out hmay
        obtain ⟨q, hq⟩ : ∃ q, q = firstE (fun t => unk (t.nms.all (known L ks i x.hv))) x.terms := ⟨_, rfl⟩
        rw [← hq] at hsn
        have HSN := Lib.hid hsn
        have HE : Hid (q = G) := Lib.hid (by rw [HG.out, hq]; unfold wrongT; rw [if_pos HZ.out.symm])
        clear hmay hsn hq
        go_wp2_with fail
        refine HSN.out.mono ?_
        rintro y w8 ⟨rfl, b8⟩
        have HB8 := Lib.hid (Trm.go HBA.out (Trm.go HB7.out b8))
        clear b8
        go_wp2_with fail
        go_ret
        exact ⟨by rw [← HE.out]; rfl, HB8.out⟩
      · have HE : Hid (z = G) := Lib.hid (by rw [HG.out, HZ.out]; unfold wrongT; rw [if_neg (fun h => hz0 (by rw [HZ.out]; exact h))])
        have hz1 : (z == 0) = false := by simpa using hz0
        have HB8 := Lib.hid (Trm.go HBA.out HB7.out)
        go_wp2_with fail
        go_ret
        exact ⟨by rw [← HE.out]; rfl, HB8.out⟩
  · go_simp
    refine hK.out _ _ (HC2.out _ (Trm.go (Below.refl _ _).drew (below_one _ _))) (fun hHeld => ?_)
    clear hK K
    try simp only [List.getElem_toArray, List.getElem_cons_succ, List.getElem_cons_zero, Act.put, List.setIfInBounds_toArray, List.set_cons_zero, List.set_cons_succ]
    refine wpAnyH_ready (rs := [1]) (by kernel_rfl) (by simp) ?_
    refine AllReadyH.cons rfl (fun K hK => ?_) AllReadyH.nil
    go_simp
    refine (HT.out (WA.drew.alloc (.cells #[.slice none 0 0] 24)) (Trm.go (Below.refl _ _).drew (below_one _ _))).mono ?_
    rintro y w2 ⟨ao, cp, rfl, hri, bT⟩
    have Bw2 := Lib.hid (show Below WA.heap.size WA w2 from Trm.go (Trm.go (Below.refl _ _).drew (below_one WA.drew (.cells #[.slice none 0 0] 24))) bT)
    have HRI := Lib.hid hri
    clear hri
    have hzT := (bT.block WA.drew.heap.size (by rw [World.size_alloc]; omega)).trans (World.alloc_heap_new WA.drew (.cells #[.slice none 0 0] 24))
    have HZT := Lib.hid hzT
    have HLT2 := Lib.hid (show WA.heap.size < w2.heap.size from by have := bT.size; rw [World.size_alloc] at this; exact this)
    clear hzT
    refine hK.out _ _ (HC2.out _ Bw2.out) (fun hHeld => ?_)
    clear hK K
    try simp only [List.getElem_toArray, List.getElem_cons_succ, List.getElem_cons_zero, Act.put, List.setIfInBounds_toArray, List.set_cons_zero, List.set_cons_succ]
    refine wpAnyH_ready (rs := [6]) (by kernel_rfl) (by simp) ?_
    refine AllReadyH.cons rfl (fun K hK => ?_) AllReadyH.nil
    go_simp
    refine (envParams_any n HN4.out (w2)).mono ?_
    rintro y w3 ⟨g, rfl, hrow, hge, hgl, bP⟩
    have Bw3 := Lib.hid (show Below WA.heap.size WA w3 from Trm.go Bw2.out bP)
    have HNE := Lib.hid (show WA.heap.size ≠ g from fun e => by have := HLT2.out; omega)
    have HROW := Lib.hid hrow
    have HGL := Lib.hid hgl
    have HBP := Lib.hid bP
    clear hrow hgl bP hge
    refine hK.out _ _ (HC2.out _ Bw3.out) (fun hHeld => ?_)
    clear hK K
    try simp only [List.getElem_toArray, List.getElem_cons_succ, List.getElem_cons_zero, Act.put, List.setIfInBounds_toArray, List.set_cons_zero, List.set_cons_succ]
    have hz := (HBP.out.block WA.heap.size HLT2.out).trans HZT.out
    have HZZ := Lib.hid hz
    have cz := one_cellE hz
    have fz : w3.frozen? ⟨WA.heap.size, 0, none⟩ = false := by simp [World.frozen?, hz]
    clear hz
    refine wpAnyH_take (i := 8) (v := ?vdNW8) rfl (by kernel_rfl) (by kernel_rfl) (by kernel_rfl) (fun _ _ _ h => h) (Or.inl ⟨by rfl, ?hydNW8⟩) (by assumption) ?restdNW8
    case hydNW8 => (intro w' hSw; (try dsimp only at hSw); go_simp <;> with_reducible rfl)
    try simp only [List.getElem_toArray, List.getElem_cons_succ, List.getElem_cons_zero, Act.put, List.setIfInBounds_toArray, List.set_cons_zero, List.set_cons_succ]
    refine wpAnyH_ready (rs := [9]) (by kernel_rfl) (by simp) ?_
    refine AllReadyH.cons rfl (fun K hK => ?_) AllReadyH.nil
    go_simp
    refine hK.out _ _ (HC2.out _ (below_setE Bw3.out (Nat.le_refl _) Bw3.out.size _)) (fun hHeld => ?_)
    clear hK K
    try simp only [List.getElem_toArray, List.getElem_cons_succ, List.getElem_cons_zero, Act.put, List.setIfInBounds_toArray, List.set_cons_zero, List.set_cons_succ]
    refine wpAnyH_done (by kernel_rfl) ?_ _
    clear cz fz
    obtain ⟨W6, hW6⟩ : ∃ x : World, x = w3.setCell ⟨WA.heap.size, 0, none⟩ (.slice (some ⟨g, 0, none⟩) n n) := ⟨_, rfl⟩
    have HOV : Hid (OVar W6 WA.heap.size n) := Lib.hid (by rw [hW6]; exact ovar_put HZZ.out HROW.out HGL.out HNE.out HN4.out)
    have HR6 : Hid (RowIn W6.heap.size W6 ao 0 x.terms) := Lib.hid (by rw [hW6]; exact rowEnd HRI.out ((RanS.of_below HBP.out).trans (set_ranE w3 WA.heap.size 0 _ ⟨Nat.le_refl _, by rw [World.size_alloc]; exact Nat.lt_succ_self _⟩)) Bw2.out.size)
    have HB6 : Hid (Below WA.heap.size WA W6) := Lib.hid (by rw [hW6]; exact below_setE Bw3.out (Nat.le_refl _) Bw3.out.size _)
    rw [← hW6]
    clear hW6
    have HSO := Lib.hid (searchO_any HOV.out x.terms ao cp HR6.out HTL.out)
    obtain ⟨z, hz⟩ : ∃ z, z = firstE (fun t => openE t n) x.terms := ⟨_, rfl⟩
    rw [← hz] at HSO
    have HZ := Lib.hid hz
    clear hz
    have cK3 := one_cellE (HK.out.below HB6.out)
    unfold fnK at cK3
    go_wp2_with fail
    refine HSO.out.mono ?_
    rintro y w7 ⟨rfl, b7⟩
    have HB7 := Lib.hid (Trm.go HB6.out b7)
    have HR7 := Lib.hid (carryRow HR6.out b7)
    clear b7 HSO cK3
    by_cases hz0 : z = 0
    · subst hz0
      have hmay : ∀ t ∈ x.terms, t.may = true := open_may HZ.out
      have hsn := searchN_any (HCTX.out.below HB7.out) (HK.out.below HB7.out) HKS.out x.terms ao cp HR7.out HTL.out hmay
      obtain ⟨q, hq⟩ : ∃ q, q = firstE (fun t => unk (t.nms.all (known L ks i x.hv))) x.terms := ⟨_, rfl⟩
      rw [← hq] at hsn
      have HSN := Lib.hid hsn
      have HE : Hid (q = G) := Lib.hid (by rw [HG.out, hq]; unfold wrongT; rw [if_pos HZ.out.symm])
      clear hmay hsn hq
      go_wp2_with fail
      refine HSN.out.mono ?_
      rintro y w8 ⟨rfl, b8⟩
      have HB8 := Lib.hid (Trm.go HBA.out (Trm.go HB7.out b8))
      clear b8
      go_wp2_with fail
      go_ret
      exact ⟨by rw [← HE.out]; rfl, HB8.out⟩
    · have HE : Hid (z = G) := Lib.hid (by rw [HG.out, HZ.out]; unfold wrongT; rw [if_neg (fun h => hz0 (by rw [HZ.out]; exact h))])
      have hz1 : (z == 0) = false := by simpa using hz0
      have HB8 := Lib.hid (Trm.go HBA.out HB7.out)
      go_wp2_with fail
      go_ret
      exact ⟨by rw [← HE.out]; rfl, HB8.out⟩
end Go.Proofs.YtiekbhlnnmnklaaGreat


namespace Go.Proofs.YtiekbhlnnmnklaaGreat
open Go.RowKit Go.Shelf Go.Maps Lvl Trm Env

namespace Env
def names (l : List Inf) : List (List UInt8) := l.map fun x => key x.name
theorem TiedP.nil : TiedP (.map []) [] := ⟨⟨[], rfl⟩, fun k => by simp [Maps.has], fun k hk => by cases hk⟩
theorem isKeyS (k : List UInt8) : WideAt.IsKeyLit (.string k) := trivial
theorem TiedP.snoc {D : DataW Unit} {ks : List (List UInt8)} (h : TiedP D ks) {k : List UInt8} (hn : k ∉ ks) : TiedP (D.put (.string k) (.lit (.int .i64 ks.length))) (ks ++ [k]) where
  isMap := h.isMap.put _ _
  has x := by
    by_cases e : x = k
    · subst e; rw [has_put_same h.isMap (isKeyS _)]; simp
    · rw [has_put_other (fun e2 => e (by injection e2)), h.has x]; simp [e]
  at_ x hx z := by
    by_cases e : x = k
    · subst e
      rw [atKey_put_same h.isMap (isKeyS _), List.idxOf_append, if_neg hn]
      simp
    · have hx2 : x ∈ ks := by simpa [e] using hx
      rw [atKey_put_other (fun e2 => e (by injection e2)), h.at_ x hx2, List.idxOf_append, if_pos hx2]
theorem TiedP.same {D : DataW Unit} {ks : List (List UInt8)} (h : TiedP D ks) {k : List UInt8} (hn : k ∈ ks) : TiedP D (ks ++ [k]) where
  isMap := h.isMap
  has x := by
    rw [h.has x]
    simp
    intro e
    exact e ▸ hn
  at_ x hx z := by
    have hx2 : x ∈ ks := by
      rcases List.mem_append.1 hx with h1 | h1
      · exact h1
      · simp at h1; exact h1 ▸ hn
    rw [h.at_ x hx2, List.idxOf_append, if_pos hx2]
def PlRel (w : World) (l : List Inf) (i : Value) (wr : World) : Prop := ∃ (k : Nat) (D : DataW Unit), i = .int .i64 k ∧ k ≤ l.length ∧ wr.ownsMap Tryz.prog 9 (plainElem Tryz.prog 3) w.heap.size k D ∧ TiedP D (names (l.take k)) ∧ Below w.heap.size w wr
def PlPost (w : World) (l : List Inf) (e : Ending) (w' : World) : Prop := ∃ (m n : Nat) (D : DataW Unit), e = .returned (.map (some m)) ∧ w'.ownsMap Tryz.prog 9 (plainElem Tryz.prog 3) m n D ∧ TiedP D (names l) ∧ w.heap.size ≤ m ∧ Below w.heap.size w w'
theorem names_take {l : List Inf} {k : Nat} (hk : k < l.length) : names (l.take (k + 1)) = names (l.take k) ++ [key l[k].name] := by
  unfold names
  rw [List.take_succ_eq_append_getElem hk, List.map_append]
  rfl
theorem names_len (l : List Inf) : (names l).length = l.length := by simp [names]
end Env

set_option maxRecDepth 100000 in
set_option maxHeartbeats 4000000 in
theorem placesOf_any (l : List Inf) (lo : Option Addr) (lc : Nat) (w : World) (hr : InfRow w.heap.size w lo l) (hl : l.length ≤ 1000000) : Calls Tryz.prog 98 #[.slice lo l.length lc] w (PlPost w l) := by
  have HR := Lib.hid hr
  have HL := Lib.hid hl
  have H0 : Hid (PlRel w l (.int .i64 (0 : Nat)) (w.alloc (.map #[] 0))) := Lib.hid ⟨0, .map [], rfl, by omega, World.ownsMap_made w Tryz.prog _ _, by rw [List.take_zero]; exact TiedP.nil, below_one _ _⟩
  have hmm := @run_makeMap Tryz.prog
  clear hr hl
  go_enter Tryz.func98, Tryz.ntmps98
  go_wp2_with fail
  go_loopw [10] (fun i wr => PlRel w l i wr) (fun i _ => l.length - (intOf i).toNat)
  case atStart => exact H0.out
  case round =>
    obtain ⟨k, D, rfl, hk, hown, htied, hbel⟩ := hrel
    have HOWN := Lib.hid hown
    have HTI := Lib.hid htied
    have HBEL := Lib.hid hbel
    clear hown htied hbel H0 hmm
    by_cases hlt : k < l.length
    · obtain ⟨b, off, hd, hlo, hb, hrg, hin⟩ := (HR.out.below HBEL.out).place k hlt
      have HNT := Lib.hid (names_take hlt)
      have c1 : wr.cell? ⟨b, off + k * 25 + 1, none⟩ = some (.string l[k].name) := hrg 1 _ rfl
      have hsz : l[k].name.size ≤ maxLen := by have := hin.fit.name; unfold maxLen; omega
      obtain ⟨s, hs⟩ : ∃ s, s = l[k].name := ⟨_, rfl⟩
      rw [← hs] at HNT c1 hsz
      have hlook := places_ok HOWN.out HTI.out hsz
      have hkey : keyOf Tryz.prog 9 (.string s) = some (.string (key s)) := WideMaps.keyOf_string_mk Tryz.underlying9 hsz
      have HLT := Lib.hid hlt
      have hwk : wrap64 ((k : Int) + 1) = (k : Int) + 1 := IntWalk.wrap64_in _ (by have := HL.out; omega)
      subst hlo
      by_cases hmem : key s ∈ names (l.take k)
      · rw [decide_eq_true hmem] at hlook
        have HNX : Hid (PlRel w l (.int .i64 ((k : Int) + 1)) wr) := Lib.hid ⟨k + 1, D, rfl, HLT.out, HOWN.out.mono (by omega), by rw [HNT.out]; exact HTI.out.same hmem, HBEL.out⟩
        generalize ((if key s ∈ names (l.take k) then (names (l.take k)).idxOf (key s) else 0 : Nat) : Int) = N at hlook
        clear hrg hin hsz hs hkey hmem
        go_wp2_with fail
        go_roundw
        case rel => rw [hwk]; exact HNX.out
        case measure => exact less_step hwk HLT.out
      · rw [decide_eq_false hmem] at hlook
        obtain ⟨w1, hrun, hown1, hgrow⟩ := HOWN.out.update (string_keyed Tryz.underlying9) Tryz.underlying145 (by have := HL.out; unfold maxLen; omega) hkey (plainElem_int (q := .i64) (a := (k : Int)) Tryz.underlying3 (by simp [Lit.wf, IntKind.min, IntKind.max, IntKind.signed, IntKind.bits]; have := HL.out; omega))
        have hlk : (names (l.take k)).length = k := by rw [names_len, List.length_take]; omega
        have hti := HTI.out.snoc hmem
        rw [hlk] at hti
        have hb1 : Below w.heap.size w w1 := HBEL.out.trans ⟨hgrow.os, hgrow.tape, hgrow.output, hgrow.size, fun q hq => hgrow.block q (by have := HBEL.out.size; omega) (fun e => by injection e with e; omega)⟩
        have HNX : Hid (PlRel w l (.int .i64 ((k : Int) + 1)) w1) := Lib.hid ⟨k + 1, _, rfl, HLT.out, hown1, by rw [HNT.out]; exact hti, hb1⟩
        have c2 : w1.cell? ⟨b, off + k * 25 + 1, none⟩ = some (.string s) := by
          rw [← c1]
          exact World.cell?_of_block (hgrow.block b (by have := HBEL.out.size; omega) (fun e => by injection e with e; omega))
        generalize ((if key s ∈ names (l.take k) then (names (l.take k)).idxOf (key s) else 0 : Nat) : Int) = N at hlook
        clear hrg hin hsz hs hkey hmem hown1 hgrow hti hb1 hlk
        go_wp2_with fail
        go_roundw
        case rel => rw [hwk]; exact HNX.out
        case measure => exact less_step hwk HLT.out
    · have hke : k = l.length := by omega
      subst hke
      have htied := HTI.out
      rw [List.take_length] at htied
      have HPO : Hid (PlPost w l (.returned (.map (some w.heap.size))) wr) := Lib.hid ⟨_, _, D, rfl, HOWN.out, htied, Nat.le_refl _, HBEL.out⟩
      clear htied
      go_wp2_with fail
      go_ret
      exact HPO.out
end Go.Proofs.YtiekbhlnnmnklaaGreat

