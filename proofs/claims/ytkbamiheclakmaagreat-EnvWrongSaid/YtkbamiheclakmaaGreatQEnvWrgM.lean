/-
  EnvWrong: an info that is taken, and the nine ways in which it is not.
-/
import Derived.Test.YtkbamiheclakmaaGreatQB13
import Derived.Test.YtkbamiheclakmaaGreatQEnvStaysM
namespace Go.Proofs.YtkbamiheclakmaaGreat
open Go.RowKit Go.Shelf Lvl Trm Env

namespace Env
def nGood : ByteArray := ⟨#[103, 111, 111, 100, 39]⟩
def nBase : ByteArray := ⟨#[98, 97, 115, 101, 39]⟩
def nNobody : ByteArray := ⟨#[110, 111, 98, 111, 100, 121, 39]⟩
def nNo : ByteArray := ⟨#[110, 111, 32, 110, 97, 109, 101]⟩
def tP : Tm := .mk 1 0 no [⟨0, 0, -1, -1, -1⟩] []
def gI : Inf := df nGood tS (tC nBase)
def bads : List (Inf × Int) := [({ gI with name := nBase }, 5), ({ gI with name := nNo }, 5), ({ gI with kind := 7 }, 1), ({ gI with fields := 1001 }, 1), ({ gI with params := 5 }, 8), ({ gI with va := tV 0 }, 7), ({ gI with ty := tP }, 8), ({ gI with va := tC nNobody }, 6), ({ gI with va := tC nGood }, 6)]
structure LFacts (L : List Ent) : Prop where
  good : lookE L (key nGood) = none
  base : (lookE L (key nBase)).isSome = true
  nobody : lookE L (key nNobody) = none
  few : L.length ≤ 40
theorem firstE_one {α : Type} (f : α → Int) (a : α) : firstE f [a] = f a := by
  unfold firstE
  by_cases h : f a = 0
  · simp [h]
  · simp [h]
theorem firstE_two {α : Type} (f : α → Int) (a b : α) : firstE f [a, b] = if f a = 0 then f b else f a := by
  unfold firstE
  by_cases h : f a = 0
  · by_cases h2 : f b = 0
    · simp [h, h2]
    · simp [h, h2]
  · simp [h]
theorem wrongLB_one (L : List Ent) (x : Inf) : wrongLB L [x] = wrongIB L [key x.name] 0 x := firstE_one _ _
theorem addA_one {L : List Ent} (h : LFacts L) (x : Inf) : addA L [x] = wrongIB L [key x.name] 0 x := by
  have := h.few
  rw [addA_is]
  unfold addB
  rw [if_neg (by simp; omega), wrongLB_one]
/-- An info of which nothing is wrong but its terms. -/
theorem wrong_terms {L : List Ent} {x : Inf} (h1 : nameOk x.name = true) (h2 : lookE L (key x.name) = none) (h4 : x.isKind = true) (h5 : x.nums = true) (h6 : ¬ x.params < 0) (h7 : ¬ 4 < x.params) : wrongIB L [key x.name] 0 x = wrongTB L [key x.name] 0 x.params.toNat x := by
  unfold wrongIB
  rw [if_neg (by rw [h1]; simp), if_neg (by rw [h2]; simp), if_neg (by omega), if_neg (by rw [h4]; simp), if_neg (by rw [h5]; simp), if_neg h6, if_neg h7]
theorem known_self {L : List Ent} {k : List UInt8} (h : lookE L k = none) : known L [k] 0 true k = false := by
  unfold known
  simp [h]
theorem known_none {L : List Ent} {k k2 : List UInt8} (h : lookE L k = none) : known L [k2] 0 true k = false := by
  unfold known
  simp [h]
theorem known_there {L : List Ent} {k k2 : List UInt8} (h : (lookE L k).isSome = true) : known L [k2] 0 true k = true := by
  unfold known
  simp [h]
theorem good_terms {L : List Ent} {s : ByteArray} {b : Bool} (hs : (tC s).nms = [key s]) (ho : openB (tC s) 0 = 0) (hk : known L [key nGood] 0 true (key s) = b) : wrongTB L [key nGood] 0 0 { gI with va := tC s } = if b = true then 0 else 6 := by
  have e : ({ gI with va := tC s } : Inf).terms = [tS, tC s] := rfl
  have e1 : firstE (fun t => openB t 0) [tS, tC s] = 0 := by rw [firstE_two, ho]; kernel_rfl
  unfold wrongTB
  rw [e, if_pos e1, firstE_two]
  have e2 : unk ((tS.nms).all (known L [key nGood] 0 ({ gI with va := tC s } : Inf).hv)) = 0 := by kernel_rfl
  rw [if_pos e2, hs]
  show unk ([key s].all (known L [key nGood] 0 true)) = _
  rw [List.all_cons, List.all_nil, hk, Bool.and_true]
  cases b <;> rfl
theorem no_of {b : Bool} (h : b = true) : ¬ b = false := by rw [h]; simp
theorem good_ok {L : List Ent} (h : LFacts L) : addA L [gI] = 0 := by
  rw [addA_one h, wrong_terms (by kernel_rfl) h.good (by kernel_rfl) (by kernel_rfl) (by show ¬ (0 : Int) < 0; omega) (by show ¬ (4 : Int) < 0; omega)]
  have e := good_terms (L := L) (s := nBase) (b := true) (by kernel_rfl) (by kernel_rfl) (known_there h.base)
  exact e
theorem bad_want {L : List Ent} (h : LFacts L) : ∀ p ∈ bads, addA L [p.1] = p.2 := by
  intro p hp
  simp only [bads, List.mem_cons, List.not_mem_nil, or_false] at hp
  rw [addA_one h]
  rcases hp with rfl | rfl | rfl | rfl | rfl | rfl | rfl | rfl | rfl
  · unfold wrongIB
    rw [if_neg (no_of (by kernel_rfl)), if_pos h.base]
  · unfold wrongIB
    rw [if_pos (by kernel_rfl)]
  · unfold wrongIB
    rw [if_neg (no_of (by kernel_rfl)), if_neg (by show ¬ (lookE L (key nGood)).isSome = true; rw [h.good]; simp), if_neg (by omega), if_pos (by kernel_rfl)]
  · unfold wrongIB
    rw [if_neg (no_of (by kernel_rfl)), if_neg (by show ¬ (lookE L (key nGood)).isSome = true; rw [h.good]; simp), if_neg (by omega), if_neg (no_of (by kernel_rfl)), if_pos (by kernel_rfl)]
  · unfold wrongIB
    rw [if_neg (no_of (by kernel_rfl)), if_neg (by show ¬ (lookE L (key nGood)).isSome = true; rw [h.good]; simp), if_neg (by omega), if_neg (no_of (by kernel_rfl)), if_neg (no_of (by kernel_rfl)), if_neg (by show ¬ (5 : Int) < 0; omega), if_pos (by show (4 : Int) < 5; omega)]
  · rw [wrong_terms (by kernel_rfl) h.good (by kernel_rfl) (by kernel_rfl) (by show ¬ (0 : Int) < 0; omega) (by show ¬ (4 : Int) < 0; omega)]
    unfold wrongTB
    have e : firstE (fun t => openB t 0) ({ gI with va := tV 0 } : Inf).terms = 7 := by kernel_rfl
    show (if firstE (fun t => openB t 0) ({ gI with va := tV 0 } : Inf).terms = 0 then _ else firstE (fun t => openB t 0) ({ gI with va := tV 0 } : Inf).terms) = 7
    rw [e, if_neg (by decide)]
  · rw [wrong_terms (by kernel_rfl) h.good (by kernel_rfl) (by kernel_rfl) (by show ¬ (0 : Int) < 0; omega) (by show ¬ (4 : Int) < 0; omega)]
    unfold wrongTB
    have e : firstE (fun t => openB t 0) ({ gI with ty := tP } : Inf).terms = 8 := by kernel_rfl
    show (if firstE (fun t => openB t 0) ({ gI with ty := tP } : Inf).terms = 0 then _ else firstE (fun t => openB t 0) ({ gI with ty := tP } : Inf).terms) = 8
    rw [e, if_neg (by decide)]
  · rw [wrong_terms (by kernel_rfl) h.good (by kernel_rfl) (by kernel_rfl) (by show ¬ (0 : Int) < 0; omega) (by show ¬ (4 : Int) < 0; omega)]
    exact good_terms (L := L) (s := nNobody) (b := false) (by kernel_rfl) (by kernel_rfl) (known_none h.nobody)
  · rw [wrong_terms (by kernel_rfl) h.good (by kernel_rfl) (by kernel_rfl) (by show ¬ (0 : Int) < 0; omega) (by show ¬ (4 : Int) < 0; omega)]
    exact good_terms (L := L) (s := nGood) (b := false) (by kernel_rfl) (by kernel_rfl) (known_self h.good)
/-- The second of two: it is never taken. -/
theorem bad_two {L : List Ent} (h : LFacts L) : ∀ p ∈ bads, addA L [gI, p.1] ≠ 0 := by
  intro p hp hz
  have h1 : wrongL L [gI, p.1] = 0 := by
    unfold addA at hz
    split at hz
    · simp at hz
    · exact hz
  have h2 := wrongL_all h1 1 (by simp)
  have h3 := wrongI_zero h2
  obtain ⟨h4, h5, h6, _⟩ := h3
  simp only [bads, List.mem_cons, List.not_mem_nil, or_false] at hp
  rcases hp with rfl | rfl | rfl | rfl | rfl | rfl | rfl | rfl | rfl
  · have hb := h.base
    have h5' : lookE L (key nBase) = none := h5
    rw [h5'] at hb; cases hb
  · have h4' : nameOk nNo = true := h4
    rw [show nameOk nNo = false from by kernel_rfl] at h4'; cases h4'
  all_goals
    have h6' : 1 ≤ (names [gI, gI]).idxOf (key nGood) := h6
    rw [show (names [gI, gI]).idxOf (key nGood) = 0 from by kernel_rfl] at h6'
    omega
/-- Heights behind it. -/
theorem good_height {L : List Ent} (h : LFacts L) (b : Nat) (hd : IHd) : maxH (L ++ [(b, fixI L gI, hd)]) (tC nGood).nms = 1 + maxH L (tC nBase).nms ∧ maxH (L ++ [(b, fixI L gI, hd)]) (tC nBase).nms = maxH L (tC nBase).nms := by
  have e1 : (tC nGood).nms = [key nGood] := by kernel_rfl
  have e2 : (tC nBase).nms = [key nBase] := by kernel_rfl
  have h2 : maxH (L ++ [(b, fixI L gI, hd)]) (tC nBase).nms = maxH L (tC nBase).nms := maxH_more (fun k hk => by rw [e2] at hk; simp at hk; subst hk; exact h.base)
  refine ⟨?_, h2⟩
  have h3 : (fixI L gI).height = maxH L (tC nBase).nms + 1 := by
    unfold fixI
    rw [if_pos (show gI.kind = 2 from rfl)]
    rfl
  have h4 := (fold_ge (hof L) (tC nBase).nms 0).1
  have h5 : lookE (L ++ [(b, fixI L gI, hd)]) (key nGood) = some (b, fixI L gI, hd) := lookE_last (q := (b, fixI L gI, hd)) h.good
  rw [e1]
  show max 0 (hof (L ++ [(b, fixI L gI, hd)]) (key nGood)) = _
  unfold hof
  rw [h5]
  show max 0 (fixI L gI).height = _
  rw [h3]
  unfold maxH at *
  omega
end Env
end Go.Proofs.YtkbamiheclakmaaGreat


