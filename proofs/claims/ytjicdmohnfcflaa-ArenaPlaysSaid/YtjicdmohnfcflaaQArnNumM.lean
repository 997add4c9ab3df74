/-
  arena.number: its mathematics; a look-up in an arena's map.
-/
import Derived.Test.YtjicdmohnfcflaaQArnAdd
namespace Go.Proofs.Ytjicdmohnfcflaa
open Go.RowKit Go.Shelf Go.Maps Lvl Trm
namespace Arn
theorem zero5 (w : World) : (zeroValue 3).run Try.prog w = .ok (.int .i64 0) w := by kernel_rfl
set_option maxRecDepth 100000 in
theorem look_any {w : World} {A : Nat} {L : List Tm} {v : Value} {mo : Option Nat} (h : Ar w A L v mo) {t : Tm} (hm : t.may = true) (hp : ∀ y ∈ t.ts, y ∈ L) (hf : L.length ≤ 1000000) :
    (Instr.lookup 54 (.map mo) (.agg (keyT L t).toArray) true).run Try.prog w = .ok (.tuple #[.int .i64 ((if t ∈ L then num L t else 0 : Nat) : Int), .bool (decide (t ∈ L))]) w := by
  have hkey := kl_some (may_node hm) hf
  rcases h.map with ⟨rfl, rfl⟩ | ⟨m, D, rfl, hown, ht⟩
  · have := Maps.look_nil (P := Try.prog) (w := w) true lawK Try.underlying54 (zero5 w) hkey
    rw [this]
    simp
  · obtain ⟨x, ps, hrun, hx⟩ := hown.look_ok lawK Try.underlying54 (zero5 w) (plainElem_int Try.underlying3 (wf_i64 (n := 0) (by omega) (by omega))) hkey
    obtain ⟨c, rfl, hc, _⟩ := plainElem_int_inv Try.underlying3 hx
    have hhas := ht.has (kl L t) (kl_key (may_node hm) hf)
    rw [kl_mem h.ok hm hp hf] at hhas
    rw [hrun]
    have hc1 : D.atKey (kl L t) (.lit (.int .i64 0)) = .lit (.int .i64 c) := congrArg Prod.fst hc
    by_cases hin : t ∈ L
    · rw [hhas.2 hin, if_pos hin, decide_eq_true hin]
      have hi := num_lt hin
      have h1 := ht.at_ (num L t) (by rw [List.length_map]; exact hi) (.lit (.int .i64 0))
      have e1 : (L.map (kl L))[num L t]'(by rw [List.length_map]; exact hi) = kl L t := by
        rw [List.getElem_map, num_get hin]
      rw [e1, hc1] at h1
      injection h1 with h1
      injection h1 with _ h1
      rw [h1]
    · have hn : Maps.has D (kl L t) = false := by
        cases hb : Maps.has D (kl L t)
        · rfl
        · exact absurd (hhas.1 hb) hin
      rw [hn, if_neg hin, decide_eq_false hin]
      rw [atKey_of_not_has hn] at hc1
      injection hc1 with h1
      injection h1 with _ h1
      rw [← h1]
      rfl

/-- What is handed on for what is missing: add, or absent. -/
def FV (md : Bool) (A : Nat) : Value := if md then .func (.func 29) #[.pointer (some ⟨A, 0, none⟩)] #[] else .func (.func 35) #[] #[]
noncomputable def insM (md : Bool) (t : Tm) (L : List Tm) : List Tm := if md then Tm.ins t L else L
noncomputable def insML (md : Bool) (ts : List Tm) (L : List Tm) : List Tm := if md then insL ts L else L
noncomputable def fndB (md : Bool) (L : List Tm) (t : Tm) : Bool := md || decide (t ∈ L)
noncomputable def numI (md : Bool) (L : List Tm) (t : Tm) : Int := if fndB md L t = true then (num (insM md t L) t : Nat) else 0
def NumPost (md : Bool) (A : Nat) (v : Value) (mo : Option Nat) (L : List Tm) (t : Tm) (w : World) (e : Ending) (w' : World) : Prop :=
  e = .returned (.tuple #[.int .i64 (numI md L t), .bool (fndB md L t)]) ∧ Moved A v mo (insM md t L) w w'
theorem insML_take {md : Bool} {ts : List Tm} {k : Nat} (h : k < ts.length) (L : List Tm) : insML md (ts.take (k + 1)) L = insM md ts[k] (insML md (ts.take k) L) := by
  unfold insML insM
  cases md
  · rfl
  · exact insL_take h L
theorem insML_prefix (md : Bool) (ts L : List Tm) : L <+: insML md ts L := by
  unfold insML
  cases md
  · exact List.prefix_refl _
  · exact insL_prefix ts L
theorem insM_prefix (md : Bool) (t : Tm) (L : List Tm) : L <+: insM md t L := by
  unfold insM
  cases md
  · exact List.prefix_refl _
  · exact ins_prefix t L
theorem insML_len (md : Bool) (ts L : List Tm) : ((insML md ts L).length : Int) ≤ L.length + sizeL ts := by
  unfold insML
  cases md
  · have := sizeL_ge ts; simp; omega
  · exact insL_len ts L
theorem sizeL_take {ts : List Tm} {k : Nat} (h : k < ts.length) : sizeL (ts.take k) + ts[k].size ≤ sizeL ts := by
  have key : ∀ (a b : List Tm), sizeL (a ++ b) = sizeL a + sizeL b := by
    intro a b
    induction a with
    | nil => rw [List.nil_append, sizeL]; omega
    | cons x r ih => rw [List.cons_append, sizeL, sizeL, ih]; omega
  have h1 := key (ts.take k) (ts.drop k)
  rw [List.take_append_drop, sizeL_drop h] at h1
  have := sizeL_ge (ts.drop (k + 1))
  omega
/-- Found so far. -/
def Got (md : Bool) (ts : List Tm) (k : Nat) (L : List Tm) : Prop := md = true ∨ ∀ y ∈ ts.take k, y ∈ L
theorem Got.mem {md : Bool} {ts L : List Tm} {k : Nat} (h : Got md ts k L) : ∀ y ∈ ts.take k, y ∈ insML md (ts.take k) L := fun y hy => by
  unfold insML
  cases md
  · rcases h with h | h
    · cases h
    · exact h y hy
  · exact insL_mem _ _ y hy
theorem found_mem {md : Bool} {L : List Tm} {t : Tm} (h : fndB md L t = true) : t ∈ insM md t L := by
  unfold fndB at h
  unfold insM
  cases md
  · simpa using h
  · exact ins_mem t L
theorem Got.step {md : Bool} {ts L : List Tm} {k : Nat} (hk : k < ts.length) (h : Got md ts k L) (hf : fndB md (insML md (ts.take k) L) ts[k] = true) : Got md ts (k + 1) L := by
  cases md
  · refine Or.inr fun y hy => ?_
    rw [List.take_succ_eq_append_getElem hk] at hy
    rcases List.mem_append.1 hy with hy | hy
    · rcases h with h | h
      · cases h
      · exact h y hy
    · simp at hy; subst hy
      simpa [fndB, insML] using hf
  · exact Or.inl rfl
theorem lost {md : Bool} {ts L : List Tm} {k : Nat} {t : Tm} (hts : t.ts = ts) (hok : OkL L) (hk : k < ts.length) (hf : fndB md (insML md (ts.take k) L) ts[k] = false) : md = false ∧ fndB md L t = false := by
  cases md
  · refine ⟨rfl, ?_⟩
    simp [fndB, insML] at hf ⊢
    exact fun ht => hf (hok.part ht (hts ▸ List.getElem_mem hk))
  · simp [fndB] at hf

def arrC (ns : List Nat) : Array Value := #[.int .i64 (arr ns 0), .int .i64 (arr ns 1), .int .i64 (arr ns 2)]
theorem arrC_set {ns : List Nat} {k : Nat} (hl : ns.length = k) (h3 : k < 3) (q : Nat) : (arrC ns).setIfInBounds k (.int .i64 q) = arrC (ns ++ [q]) := by
  match ns, hl with
  | [], hl => subst hl; rfl
  | [_], hl => subst hl; rfl
  | [_, _], hl => subst hl; rfl
  | _ :: _ :: _ :: _, hl => simp at hl; omega
theorem arrC_cell {w : World} {b : Nat} {ns : List Nat} {ty : TypeId} {fr : Nat × Nat} (h : w.heap[b]? = some (.cells (arrC ns) ty fr)) {k : Nat} (hk : k < 3) : w.cell? ⟨b, k, none⟩ = some (.int .i64 (arr ns k)) := by
  rw [cell_of_row w b k _ ty fr h]
  rcases (show k = 0 ∨ k = 1 ∨ k = 2 by omega) with rfl | rfl | rfl <;> rfl
theorem nums_map {ts L M : List Tm} (h : L <+: M) (hm : ∀ y ∈ ts, y ∈ L) : ts.map (num M) = ts.map (num L) := List.map_congr_left fun y hy => num_prefix h (hm y hy)
/-- The loop over the parts: their numbers; the arena with all of them. -/
def NRel (md : Bool) (A : Nat) (v : Value) (mo : Option Nat) (L : List Tm) (t : Tm) (w : World) (i : Value) (wr : World) : Prop :=
  ∃ (k : Nat) (vk : Value) (mk : Option Nat), i = .int .i64 k ∧ k ≤ t.ts.length ∧ Got md t.ts k L ∧ Ar wr A (insML md (t.ts.take k) L) vk mk ∧ (∀ q, own A vk mk q → own A v mo q ∨ (w.heap.size < q ∧ q < wr.heap.size)) ∧ RanS (own A v mo) w wr ∧
    wr.heap[w.heap.size]? = some (.cells (arrC ((t.ts.take k).map (num (insML md (t.ts.take k) L)))) 71)
/-- One behind the other. -/
theorem Moved.go {A : Nat} {v vk : Value} {mo mk : Option Nat} {L' : List Tm} {w wr w' : World} (hr : RanS (own A v mo) w wr) (ho : ∀ q, own A vk mk q → own A v mo q ∨ (w.heap.size ≤ q ∧ q < wr.heap.size)) (h : Moved A vk mk L' wr w') : Moved A v mo L' w w' := by
  obtain ⟨v', mo', har, ho', hr'⟩ := h
  refine ⟨v', mo', har, fun q hq => ?_, ranS_go hr hr' (fun q hq => (ho q hq).imp id (fun h => h.1))⟩
  have s1 := hr.size
  have s2 := hr'.size
  rcases ho' q hq with h | h
  · rcases ho q h with h | h
    · exact Or.inl h
    · exact Or.inr ⟨h.1, by omega⟩
  · exact Or.inr ⟨by omega, h.2⟩
theorem post_yes {md : Bool} {A : Nat} {v : Value} {mo : Option Nat} {L M : List Tm} {t : Tm} {w w' : World} (hM : M = insML md t.ts L) (hin : t ∈ M) (h : Moved A v mo M w w') :
    NumPost md A v mo L t w (.returned (.tuple #[.int .i64 (num M t : Nat), .bool true])) w' := by
  have e1 : insM md t L = M := by
    subst hM
    unfold insML at hin
    unfold insM insML
    cases md
    · rfl
    · simp only [if_true] at hin ⊢
      rw [ins_eq, if_pos hin]
  have e2 : fndB md L t = true := by
    unfold fndB
    cases md
    · simp; subst hM; exact hin
    · rfl
  exact ⟨by unfold numI; rw [e2, if_pos rfl, e1], e1 ▸ h⟩
theorem post_add {A : Nat} {v : Value} {mo : Option Nat} {L M : List Tm} {t : Tm} {w w' : World} (hM : M = insML true t.ts L) (hn : t ∉ M) (h : Moved A v mo (M ++ [t]) w w') :
    NumPost true A v mo L t w (.returned (.tuple #[.int .i64 (M.length : Nat), .bool true])) w' := by
  have e1 : insM true t L = M ++ [t] := by
    subst hM
    unfold insML at hn
    unfold insM insML
    simp only [if_true] at hn ⊢
    rw [ins_eq, if_neg hn]
  exact ⟨by unfold numI; rw [show fndB true L t = true from rfl, if_pos rfl, e1, num_snoc hn], e1 ▸ h⟩
theorem post_no {A : Nat} {v : Value} {mo : Option Nat} {L M : List Tm} {t : Tm} {w w' : World} (hM : M = insML false t.ts L) (hn : t ∉ M) (h : Moved A v mo M w w') :
    NumPost false A v mo L t w (.returned (.tuple #[.int .i64 0, .bool false])) w' := by
  have e0 : M = L := hM
  subst e0
  have e2 : fndB false M t = false := by unfold fndB; simp [hn]
  exact ⟨by unfold numI; rw [e2]; rfl, h⟩
end Arn
end Go.Proofs.Ytjicdmohnfcflaa

