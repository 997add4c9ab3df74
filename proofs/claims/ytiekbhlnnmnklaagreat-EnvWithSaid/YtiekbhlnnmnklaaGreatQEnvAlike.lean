/-
  Two environments with the same infos answer the same.
-/
import Derived.Test.YtiekbhlnnmnklaaGreatQB12
namespace Go.Proofs.YtiekbhlnnmnklaaGreat
open Go.RowKit Go.Shelf Lvl Trm Env

namespace Env
def infs (L : List Ent) : List Inf := L.map (·.2.1)
theorem infs_len {A B : List Ent} (h : infs A = infs B) : A.length = B.length := by have := congrArg List.length h; simpa [infs] using this
theorem look_infs (L : List Ent) (k : List UInt8) : (lookE L k).map (·.2.1) = (infs L).find? (fun x => key x.name == k) := by
  unfold lookE infs
  rw [List.find?_map]
  rfl
theorem look_alike {A B : List Ent} (h : infs A = infs B) (k : List UInt8) : (lookE A k).map (·.2.1) = (lookE B k).map (·.2.1) := by rw [look_infs, look_infs, h]
theorem some_alike {A B : List Ent} (h : infs A = infs B) (k : List UInt8) : (lookE A k).isSome = (lookE B k).isSome := by
  have e := congrArg Option.isSome (look_alike h k)
  simpa using e
theorem hof_alike {A B : List Ent} (h : infs A = infs B) (k : List UInt8) : hof A k = hof B k := by
  have e := look_alike h k
  unfold hof
  cases ha : lookE A k with
  | none =>
    cases hb : lookE B k with
    | none => rfl
    | some q => rw [ha, hb] at e; cases e
  | some p =>
    cases hb : lookE B k with
    | none => rw [ha, hb] at e; cases e
    | some q =>
      rw [ha, hb] at e
      injection e with e
      have e2 : p.2.1 = q.2.1 := e
      simp only
      rw [e2]
theorem maxH_alike {A B : List Ent} (h : infs A = infs B) (l : List (List UInt8)) : maxH A l = maxH B l := by
  unfold maxH
  rw [show (fun (a : Int) k => max a (hof A k)) = (fun (a : Int) k => max a (hof B k)) from funext fun a => funext fun k => by rw [hof_alike h k]]
theorem fixI_alike {A B : List Ent} (h : infs A = infs B) (x : Inf) : fixI A x = fixI B x := by unfold fixI; rw [maxH_alike h]
theorem known_alike {A B : List Ent} (h : infs A = infs B) (ks : List (List UInt8)) (i : Nat) (hv : Bool) : known A ks i hv = known B ks i hv := funext fun k => by unfold known; rw [some_alike h k]
theorem wrongI_alike {A B : List Ent} (h : infs A = infs B) (ks : List (List UInt8)) (i : Nat) (x : Inf) : wrongI A ks i x = wrongI B ks i x := by
  unfold wrongI wrongT
  rw [some_alike h, known_alike h]
theorem wrongL_alike {A B : List Ent} (h : infs A = infs B) (l : List Inf) : wrongL A l = wrongL B l := by
  unfold wrongL
  rw [show (fun p : Inf × Nat => wrongI A (names l) p.2 p.1) = (fun p : Inf × Nat => wrongI B (names l) p.2 p.1) from funext fun p => wrongI_alike h _ _ _]
theorem addA_alike {A B : List Ent} (h : infs A = infs B) (l : List Inf) : addA A l = addA B l := by unfold addA; rw [infs_len h, wrongL_alike h]
theorem Added.none {B B' : List Ent} (h : Added B [] B') : B' = B := by
  generalize hl : ([] : List Inf) = l at h
  cases h with
  | nil => rfl
  | snoc x b hd h2 => simp at hl
theorem Added.last {B B' : List Ent} {l : List Inf} {x : Inf} (h : Added B (l ++ [x]) B') : ∃ M b hd, Added B l M ∧ B' = M ++ [(b, fixI M x, hd)] := by
  generalize hl : l ++ [x] = l2 at h
  cases h with
  | nil => simp at hl
  | snoc y b hd h2 =>
    obtain ⟨rfl, h3⟩ := List.append_inj' hl rfl
    simp at h3
    subst h3
    exact ⟨_, b, hd, h2, rfl⟩
theorem Added.alike {A A' : List Ent} {l : List Inf} (h : Added A l A') : ∀ {B B' : List Ent}, Added B l B' → infs A = infs B → infs A' = infs B' := by
  induction h with
  | nil =>
    intro B B' hb e
    rw [hb.none]; exact e
  | snoc x b hd h2 ih =>
    intro B B' hb e
    obtain ⟨M, b', hd', hm, rfl⟩ := hb.last
    have e2 := ih hm e
    unfold infs at e2 ⊢
    rw [List.map_append, List.map_append, e2]
    simp only [List.map_cons, List.map_nil]
    rw [fixI_alike (show infs _ = infs M from e2) x]
theorem AddTo.alike {A A' B B' : List Ent} {l : List Inf} (h : AddTo A l A') (k : AddTo B l B') (e : infs A = infs B) : infs A' = infs B' := by
  rcases h with ⟨h0, h1⟩ | ⟨h0, rfl⟩
  · rcases k with ⟨_, k1⟩ | ⟨k0, _⟩
    · exact h1.alike k1 e
    · exact absurd ((addA_alike e l).symm.trans h0) k0
  · rcases k with ⟨k0, _⟩ | ⟨_, rfl⟩
    · exact absurd ((addA_alike e l).trans k0) h0
    · exact e
/-- The entry at a place has the same info. -/
theorem infs_get {A B : List Ent} (h : infs A = infs B) {j : Nat} (hj : j < A.length) : ∃ hb : j < B.length, A[j].2.1 = B[j].2.1 := by
  have hl := infs_len h
  refine ⟨by omega, ?_⟩
  have h1 : (infs A)[j]? = (infs B)[j]? := by rw [h]
  unfold infs at h1
  rw [List.getElem?_map, List.getElem?_map, List.getElem?_eq_getElem hj, List.getElem?_eq_getElem (by omega)] at h1
  simpa using h1
end Env
end Go.Proofs.YtiekbhlnnmnklaaGreat


