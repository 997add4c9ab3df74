/-
  term.Names: the names of a term, and the closure that collects them.
-/
import Derived.Test.YtijdlihodpodjaaTrmVars
import Derived.Maps.OwnSet
import Derived.Sort.KeysCollected
import Derived.Deep.RegionHeld3
namespace Go.Proofs.Ytijdlihodpodjaa
open Go.RowKit Go.Shelf Go.Maps Go.Sort Lvl Trm

namespace Trm
/-- A name, as bytes; none where it is empty. -/
def oneN (s : ByteArray) : List (List UInt8) := if s.size = 0 then [] else [s.data.toList]
mutual
/-- The names, from the left. -/
def Tm.nms : Tm → List (List UInt8)
  | .mk _ _ s _ ts => oneN s ++ nmsL ts
def nmsL : List Tm → List (List UInt8)
  | [] => []
  | t :: r => t.nms ++ nmsL r
end
theorem Tm.nms_eq (t : Tm) : t.nms = oneN t.s ++ nmsL t.ts := by cases t; rw [Tm.nms]; rfl
theorem nmsL_mem {x : Tm} : ∀ {ts : List Tm}, x ∈ ts → ∀ y ∈ x.nms, y ∈ nmsL ts
  | t :: r, h, y, hy => by
    rw [nmsL]
    rcases List.mem_cons.1 h with rfl | h
    · exact List.mem_append_left _ hy
    · exact List.mem_append_right _ (nmsL_mem h y hy)
mutual
theorem nms_size : ∀ t : Tm, (t.nms.length : Int) ≤ t.size
  | .mk k n s ls ts => by
    rw [Tm.nms, Tm.size, List.length_append]
    have h1 := nmsL_size ts
    have h2 : (oneN s).length ≤ 1 := by unfold oneN; split <;> simp
    omega
theorem nmsL_size : ∀ ts : List Tm, ((nmsL ts).length : Int) ≤ sizeL ts
  | [] => by rw [nmsL, sizeL]; simp
  | t :: r => by
    rw [nmsL, sizeL, List.length_append]
    have h1 := nms_size t
    have h2 := nmsL_size r
    omega
end
def seeNames (st : List (List UInt8)) (t : Tm) (_d _u : Int) : List (List UInt8) × Bool := (st ++ oneN t.s, true)
mutual
theorem Tm.walk_names : ∀ (t : Tm) (st : List (List UInt8)) (d u : Int), t.walk seeNames st d u = (st ++ t.nms, true)
  | .mk k n s ls ts, st, d, u => by
    rw [Tm.walk, Tm.nms]
    rw [if_pos (show (seeNames st (Tm.mk k n s ls ts) d u).2 = true from rfl), walkL_names k ts 0 _ (d + 1) u]
    show (st ++ oneN s ++ nmsL ts, true) = _
    rw [List.append_assoc]
theorem walkL_names (k : Int) : ∀ (ts : List Tm) (i : Nat) (st : List (List UInt8)) (d u : Int), walkL seeNames k ts i st d u = (st ++ nmsL ts, true)
  | [], i, st, d, u => by rw [walkL, nmsL, List.append_nil]
  | t :: r, i, st, d, u => by
    rw [walkL, Tm.walk_names t, nmsL]
    rw [if_pos rfl, walkL_names k r (i + 1) _ d _, List.append_assoc]
end
abbrev tru : DataW Unit := .lit (.bool true)
/-- The set of these names. -/
def DN (st : List (List UInt8)) : DataW Unit := setOf tru (st.map Lit.string)
theorem DN_snoc (st : List (List UInt8)) (x : List UInt8) : DN (st ++ [x]) = (DN st).put (.string x) tru := by
  unfold DN
  rw [List.map_append]
  exact setOf_snoc _ _ _
theorem isKey (st : List (List UInt8)) : ∀ x ∈ st.map Lit.string, WideAt.IsKeyLit x := by
  intro x hx
  obtain ⟨y, _, rfl⟩ := List.mem_map.1 hx
  trivial
theorem DN_tidy (st : List (List UInt8)) : Tidy (DN st) := tidy_setOf _ _ (isKey st)
theorem DN_has (st : List (List UInt8)) (x : List UInt8) : Maps.has (DN st) (.string x) = true ↔ x ∈ st := by
  unfold DN
  rw [has_setOf _ _ _ (isKey st), List.any_eq_true]
  constructor
  · rintro ⟨y, hy, hs⟩
    obtain ⟨z, hz, rfl⟩ := List.mem_map.1 hy
    have := WideAt.sameKey_eq hs
    injection this with h
    rw [← h]; exact hz
  · intro hx
    exact ⟨.string x, List.mem_map.2 ⟨x, hx, rfl⟩, WideAt.sameKey_self trivial⟩
theorem nodup_le {α : Type} [DecidableEq α] : ∀ (l m : List α), l.Nodup → (∀ x ∈ l, x ∈ m) → l.length ≤ m.length
  | [], m, _, _ => by simp
  | x :: r, m, hn, hs => by
    obtain ⟨h1, h2⟩ := List.nodup_cons.1 hn
    have h3 := nodup_le r (m.erase x) h2 (fun y hy => (List.mem_erase_of_ne (fun e => h1 (by rw [← e]; exact hy))).2 (hs y (by simp [hy])))
    have h4 := List.length_erase_of_mem (hs x (by simp))
    have h5 := List.length_pos_of_mem (hs x (by simp))
    simp only [List.length_cons]
    omega
theorem fold_keys (S : List Lit) : ∀ (acc : List Lit) (m : DataW Unit), (∃ es, m = .map es ∧ ∀ p ∈ es, p.1 ∈ S) → (∀ x ∈ acc, x ∈ S) → ∃ es, acc.foldl (fun m x => m.put x tru) m = .map es ∧ ∀ p ∈ es, p.1 ∈ S
  | [], m, h, _ => h
  | x :: r, m, h, hs => by
    rw [List.foldl_cons]
    refine fold_keys S r _ ?_ (fun y hy => hs y (by simp [hy]))
    obtain ⟨es, rfl, he⟩ := h
    refine ⟨_, rfl, fun p hp => ?_⟩
    have hp2 := (WideShapes.insert_perm (x, tru) _).mem_iff.1 hp
    rcases List.mem_cons.1 hp2 with rfl | hp2
    · exact hs x (by simp)
    · exact he p (List.mem_filter.1 hp2).1
theorem DN_keys (st : List (List UInt8)) : ∃ es, DN st = .map es ∧ es.Pairwise (fun p q => p.1 ≠ q.1) ∧ ∀ p ∈ es, ∃ x ∈ st, p.1 = .string x := by
  obtain ⟨es, he, hp⟩ := DN_tidy st
  obtain ⟨es', he', hk⟩ := fold_keys (st.map Lit.string) (st.map Lit.string) (.map []) ⟨[], rfl, fun p hp => by cases hp⟩ (fun x hx => hx)
  have e : es = es' := by
    have h1 : DN st = .map es' := he'
    rw [he] at h1
    injection h1
  subst e
  refine ⟨es, he, hp, fun p hp' => ?_⟩
  obtain ⟨x, hx, hxe⟩ := List.mem_map.1 (hk p hp')
  exact ⟨x, hx, hxe.symm⟩
/-- As many as there are are among these. -/
theorem DN_size {st Ns : List (List UInt8)} (h : ∀ x ∈ st, x ∈ Ns) : Maps.size (DN st) ≤ Ns.length := by
  obtain ⟨es, he, hp, hk⟩ := DN_keys st
  rw [he]
  show es.length ≤ _
  have h1 := nodup_le (es.map (fun p => strOf p.1)) Ns ?_ ?_
  · simpa using h1
  · refine List.pairwise_map.2 (hp.imp_of_mem fun {p q} hp' hq' hne e => hne ?_)
    obtain ⟨a, _, ha⟩ := hk p hp'
    obtain ⟨b, _, hb⟩ := hk q hq'
    rw [ha, hb] at e ⊢
    exact congrArg _ e
  · intro x hx
    obtain ⟨p, hp', rfl⟩ := List.mem_map.1 hx
    obtain ⟨a, ha, hae⟩ := hk p hp'
    rw [hae]
    exact h a ha
/-- Its keys are these. -/
theorem DN_strKeys (st : List (List UInt8)) (x : List UInt8) : x ∈ strKeys (DN st) ↔ x ∈ st := by
  obtain ⟨es, he, hp, hk⟩ := DN_keys st
  rw [← DN_has st x, he]
  show x ∈ es.map (fun p => strOf p.1) ↔ es.any (fun p => p.1.sameKey (.string x)) = true
  rw [List.any_eq_true, List.mem_map]
  constructor
  · rintro ⟨p, hp', rfl⟩
    obtain ⟨a, _, ha⟩ := hk p hp'
    exact ⟨p, hp', by rw [ha]; exact WideAt.sameKey_self trivial⟩
  · rintro ⟨p, hp', hs⟩
    exact ⟨p, hp', by rw [WideAt.sameKey_eq hs]; rfl⟩
theorem DN_nodup (st : List (List UInt8)) : (strKeys (DN st)).Nodup := by
  obtain ⟨es, he, hp, hk⟩ := DN_keys st
  rw [he]
  refine List.pairwise_map.2 (hp.imp_of_mem fun {p q} hp' hq' hne e => hne ?_)
  obtain ⟨a, _, ha⟩ := hk p hp'
  obtain ⟨b, _, hb⟩ := hk q hq'
  rw [ha, hb] at e ⊢
  exact congrArg _ e

/-- The map lies in block m and holds the set; the variable of it in block C. -/
def NInv (m C : Nat) (st : List (List UInt8)) (w : World) : Prop := w.ownsMap Try.prog 9 (plainElem Try.prog 4) m (Maps.size (DN st)) (DN st) ∧ w.heap[C]? = some (.cells #[.map (some m)] 89)
theorem lawS : Keyed Try.prog 9 := string_keyed Try.underlying9
theorem own_exact {w : World} {R : Value → Option (DataW Unit × List MemPlace)} {b n : Nat} {D : DataW Unit} (h : w.ownsMap Try.prog 9 R b n D) : w.ownsMap Try.prog 9 R b (Maps.size D) D := by
  obtain ⟨es, clock, hb, F, hs, rfl⟩ := h
  exact ⟨es, clock, hb, F, by simp [Maps.size, length_sorted], rfl⟩
end Trm

set_option maxRecDepth 100000 in
set_option maxHeartbeats 2000000 in
theorem names1_any (Ns : List (List UInt8)) (hNs : Ns.length ≤ 65536) {B m C : Nat} (hCm : C ≠ m) (st : List (List UInt8)) (t : Tm) (b o : Nat) (d u : Int) (w : World) (hg : ∀ x ∈ st, x ∈ Ns) (hi : NInv m C st w) (hat : RAt B m w b o t) :
    Calls Try.prog 76 #[.pointer (some ⟨b, o, none⟩), .int .i64 d, .int .i64 u, .pointer (some ⟨C, 0, none⟩)] w fun e w' => e = .returned (.bool true) ∧ NInv m C (st ++ oneN t.s) w' ∧ Ran m w w' := by
  obtain ⟨hbm, hbl, hd, ⟨c0, c1, c2, c3, c4⟩, hin⟩ := hat
  obtain ⟨hown, hC⟩ := hi
  have hcC := one_cell hC
  have hClt := (Array.getElem?_eq_some_iff.1 hC).1
  by_cases hs : t.s.size = 0
  · have h1 : oneN t.s = [] := if_pos hs
    have hse : t.s = ⟨#[]⟩ := by
      cases hts : t.s with
      | mk a => rw [hts] at hs; simp [ByteArray.size] at hs; rw [hs]
    rw [h1, List.append_nil]
    rw [hse] at c2
    have HO := Lib.hid hown
    have HC := Lib.hid hC
    clear hown hC hin hs hse h1
    go_enter Try.func76, Try.ntmps76
    go_wp2_with fail
    go_ret
    exact ⟨rfl, ⟨HO.out, HC.out⟩, Ran.refl _ _⟩
  · have h1 : oneN t.s = [t.s.data.toList] := if_neg hs
    have hne : t.s.toList.isEmpty = false := by rw [empty_iff, decide_eq_false hs]
    have hkey : keyOf Try.prog 9 (.string t.s) = some (.string t.s.data.toList) := WideMaps.keyOf_string_mk Try.underlying9 (by have := hin.fit.s; unfold maxLen; omega)
    obtain ⟨w1, hrun, hown1, hgrow⟩ := (show w.drew.ownsMap Try.prog 9 (plainElem Try.prog 4) m (Maps.size (DN st)) (DN st) from hown).update lawS Try.underlying89 (by have := DN_size hg; unfold maxLen; omega) hkey (plainElem_bool Try.underlying4 true)
    have HO1 := Lib.hid (show NInv m C (st ++ oneN t.s) w1 from by
      rw [h1]
      unfold NInv
      rw [DN_snoc]
      exact ⟨own_exact hown1, (hgrow.block C hClt (fun e => hCm (by injection e))).trans hC⟩)
    have HR1 := Lib.hid (show Ran m w w1 from ⟨hgrow.os, hgrow.tape, hgrow.output, hgrow.size, fun k hk hn => hgrow.block k hk (fun e => hn (by injection e))⟩)
    have hc2 : w1.cell? ⟨b, o + 2, none⟩ = some (.string t.s) := (HR1.out.cell (p := ⟨b, o + 2, none⟩) hbl hbm).trans c2
    have hcC1 : w1.cell? ⟨C, 0, none⟩ = some (.map (some m)) := (HR1.out.cell (p := ⟨C, 0, none⟩) hClt hCm).trans hcC
    clear hown hC hin hs h1 hown1 hgrow hkey
    go_enter Try.func76, Try.ntmps76
    go_wp2_with fail
    go_region_held3 (fun w' => w'.cell? ⟨b, o + 2, none⟩ = some (.string t.s) ∧ w'.cell? ⟨C, 0, none⟩ = some (.map (some m)))
      (first
        | go_keep
        | exact ⟨hc2, hcC1⟩)
      (fail)
    go_wp2_with fail
    go_ret
    exact ⟨rfl, HO1.out, HR1.out⟩

theorem Trm.sees_names (Ns : List (List UInt8)) (hNs : Ns.length ≤ 65536) {B m C : Nat} (hBm : B ≤ m) (hCm : C ≠ m) : Sees B m C 76 seeNames (NInv m C) (fun t d => OkMay t d ∧ ∀ x ∈ t.nms, x ∈ Ns) (fun st => ∀ x ∈ st, x ∈ Ns) where
  calls st t b o d u w hg hi ho hu0 hud hat hB := names1_any Ns hNs hCm st t b o d u w hg hi hat
  good st t d u hg ho hr x hx := by
    rcases List.mem_append.1 hx with hx | hx
    · exact hg x hx
    · exact ho.2 x (by rw [Tm.nms_eq]; exact List.mem_append_left _ hx)
  bound t d ho := by have := ho.1.node.2; have := ho.1.1; omega
  down st t d u ho hr x hx := ⟨ho.1.down x hx, fun y hy => ho.2 y (by rw [Tm.nms_eq]; exact List.mem_append_right _ (nmsL_mem hx y hy))⟩
  keep st w w' hi hb := ⟨by
    obtain ⟨es, clock, hbk, F, hs, hD⟩ := hi.1
    exact ⟨es, clock, Lvl.keep hb hbk, F, hs, hD⟩, Lvl.keep hb hi.2⟩
  low := hBm
  enter args w := by kernel_rfl
end Go.Proofs.Ytijdlihodpodjaa
