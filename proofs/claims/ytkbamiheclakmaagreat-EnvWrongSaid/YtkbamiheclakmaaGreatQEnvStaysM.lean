/-
  EnvStays: what stays in an environment to which infos are added one by one, and the row of what was found.
-/
import Derived.Test.YtkbamiheclakmaaGreatQB13
import Derived.Deep.AppendLies
namespace Go.Proofs.YtkbamiheclakmaaGreat
open Go.RowKit Go.Shelf Go.Maps Lvl Trm Env

namespace Env
theorem infoInf3 : (Tryz.prog.info? 46).map (fun i => (i.zero, i.size, i.bytes)) = some (some (.agg Inf.zeros), 25, 320) := by kernel_rfl
def flatI (ps : List (Inf × IHd)) : List Value := ps.flatMap fun p => p.1.vals p.2
theorem flatI_len : ∀ ps : List (Inf × IHd), (flatI ps).length = ps.length * 25
  | [] => rfl
  | p :: r => by
    have h1 := flatI_len r
    unfold flatI at h1 ⊢
    rw [List.flatMap_cons, List.length_append, h1, Inf.len, List.length_cons]
    omega
theorem flatI_at : ∀ (ps : List (Inf × IHd)) (i : Nat) (hi : i < ps.length) (j : Nat), j < 25 → (flatI ps)[i * 25 + j]? = (ps[i].1.vals ps[i].2)[j]?
  | p :: r, 0, _, j, hj => by
    unfold flatI
    rw [List.flatMap_cons, List.getElem?_append_left (by rw [Inf.len]; omega)]
    simp
  | p :: r, i + 1, hi, j, hj => by
    have h1 := flatI_at r i (by simpa using hi) j hj
    unfold flatI at h1 ⊢
    rw [List.flatMap_cons, List.getElem?_append_right (by rw [Inf.len]; omega), Inf.len, show (i + 1) * 25 + j - 25 = i * 25 + j by omega, h1]
    simp
theorem flatI_snoc (ps : List (Inf × IHd)) (x : Inf) (h : IHd) : flatI (ps ++ [(x, h)]) = flatI ps ++ x.vals h := by simp [flatI]
/-- A row of infos that the call has made. -/
structure InRow (P : Nat → Prop) (B : Nat) (w : World) (v : Value) (ps : List (Inf × IHd)) : Prop where
  row : w.ownsRow B 46 25 v ps.length (flatI ps)
  own : ∀ q, v.ownBlock = some q → P q
  firm : ∀ p ∈ ps, FirmI P w p.1 p.2
theorem InRow.at {P : Nat → Prop} {B : Nat} {w : World} {v : Value} {ps : List (Inf × IHd)} (h : InRow P B w v ps) {k : Nat} (hk : k < ps.length) :
    ∃ g cap, v = .slice (some ⟨g, 0, none⟩) ps.length cap ∧ w.rangeAt g (k * 25) (ps[k].1.vals ps[k].2) ∧ g < w.heap.size ∧ P g := by
  obtain ⟨g, cap, hv, _, hg⟩ := h.row.form (by omega)
  refine ⟨g, cap, hv, fun j u hu => ?_, hg, h.own g (by rw [hv]; rfl)⟩
  subst hv
  have hj : j < 25 := by have := (List.getElem?_eq_some_iff.1 hu).1; rw [Inf.len] at this; exact this
  have h1 := h.row.cells (g := g) rfl (k * 25 + j) u (by rw [flatI_at ps k hk j hj]; exact hu)
  rw [Addr.add_mid] at h1
  rw [Nat.zero_add] at h1
  exact h1
theorem InRow.nil {P : Nat → Prop} {B : Nat} {w : World} : InRow P B w (.slice none 0 0) [] := ⟨World.ownsRow_nil _ _ _ _, fun q hq => by simp [Value.ownBlock] at hq, fun p hp => by simp at hp⟩
theorem InRow.form {P : Nat → Prop} {B : Nat} {w : World} {v : Value} {ps : List (Inf × IHd)} (h : InRow P B w v ps) : ∃ a c, v = .slice a ps.length c := by
  obtain ⟨a, c, hv⟩ := row_slice h.row
  exact ⟨a, c, hv⟩

/-- What holds of the environment's infos. -/
def GoodM (M : List Ent) : Prop := ∀ p ∈ M, p.2.1.rules.length ≤ 20 ∧ (p.2.1.kind ≠ 2 → p.2.1.height = 0) ∧
  (p.2.1.kind = 2 → p.2.1.va.may = true ∧ (∀ k ∈ p.2.1.va.nms, (lookE M k).isSome = true) ∧ p.2.1.height = maxH M p.2.1.va.nms + 1)
theorem lookE_more {M N : List Ent} {k : List UInt8} (h : (lookE M k).isSome = true) : lookE (M ++ N) k = lookE M k := by
  unfold lookE at *
  rw [List.find?_append]
  cases hf : M.find? fun p => ekey p == k with
  | none => rw [hf] at h; cases h
  | some p => rfl
theorem lookE_last {M : List Ent} {q : Ent} (h : lookE M (ekey q) = none) : lookE (M ++ [q]) (ekey q) = some q := by
  unfold lookE at *
  rw [List.find?_append, h]
  simp
theorem lookE_nodup : ∀ {M : List Ent}, (M.map ekey).Nodup → ∀ k (h : k < M.length), lookE M (ekey M[k]) = some M[k]
  | [], _, k, h => by simp at h
  | p :: r, hn, 0, _ => by simp [lookE]
  | p :: r, hn, k + 1, h => by
    rw [List.map_cons, List.nodup_cons] at hn
    have hk : k < r.length := by simpa using h
    have h1 := lookE_nodup hn.2 k hk
    have hne : ¬ ekey p = ekey r[k] := fun e => hn.1 (e ▸ List.mem_map_of_mem (List.getElem_mem hk))
    unfold lookE at h1 ⊢
    rw [List.getElem_cons_succ, List.find?_cons_of_neg (by simpa using hne)]
    exact h1
theorem maxH_more {M N : List Ent} {l : List (List UInt8)} (h : ∀ k ∈ l, (lookE M k).isSome = true) : maxH (M ++ N) l = maxH M l := by
  have key : ∀ (l : List (List UInt8)) (a : Int), (∀ k ∈ l, (lookE M k).isSome = true) → l.foldl (fun h k => max h (hof (M ++ N) k)) a = l.foldl (fun h k => max h (hof M k)) a := by
    intro l
    induction l with
    | nil => intro a _; rfl
    | cons x r ih =>
      intro a hh
      rw [List.foldl_cons, List.foldl_cons]
      have e : hof (M ++ N) x = hof M x := by unfold hof; rw [lookE_more (hh x (by simp))]
      rw [e]
      exact ih _ (fun k hk => hh k (by simp [hk]))
  exact key l 0 h
theorem wrong_known {L : List Ent} {x : Inf} (h : wrongL L [x] = 0) (hk : x.kind = 2) : x.va.may = true ∧ ∀ k ∈ x.va.nms, (lookE L k).isSome = true := by
  have h0 := wrongL_all h 0 (by simp)
  have h1 := wrongI_zero h0
  refine ⟨h1.2.2.2.2 _ (by simp [Inf.terms, Inf.hv, hk]), fun k hkm => ?_⟩
  unfold wrongI at h0
  split at h0
  · simp at h0
  split at h0
  · simp at h0
  split at h0
  · simp at h0
  split at h0
  · simp at h0
  split at h0
  · simp at h0
  split at h0
  · simp at h0
  split at h0
  · simp at h0
  have h0' : wrongT L (names [x]) 0 x.params.toNat x = 0 := h0
  unfold wrongT at h0'
  split at h0'
  · have h2 := firstE_all h0'.symm x.va (by simp [Inf.terms, Inf.hv, hk])
    have h3 : x.va.nms.all (known L (names [x]) 0 x.hv) = true := by
      unfold unk at h2
      cases hq : x.va.nms.all (known L (names [x]) 0 x.hv)
      · rw [hq] at h2; simp at h2
      · rfl
    have h4 := List.all_eq_true.1 h3 k hkm
    have hv : x.hv = true := by simp [Inf.hv, hk]
    unfold known at h4
    rw [hv] at h4
    simpa using h4
  · rename_i h8; exact absurd h0' h8
theorem GoodM.snoc {M : List Ent} (h : GoodM M) {x : Inf} (hw : wrongL M [x] = 0) (hr : x.rules.length ≤ 20) (b : Nat) (hd : IHd) : GoodM (M ++ [(b, fixI M x, hd)]) := by
  intro p hp
  rcases List.mem_append.1 hp with hp | hp
  · obtain ⟨h1, h2, h3⟩ := h p hp
    refine ⟨h1, h2, fun hk => ?_⟩
    obtain ⟨h4, h5, h6⟩ := h3 hk
    exact ⟨h4, fun k hkm => by rw [lookE_more (h5 k hkm)]; exact h5 k hkm, by rw [maxH_more h5]; exact h6⟩
  · simp at hp
    subst hp
    refine ⟨hr, fun hk => ?_, fun hk => ?_⟩
    · have hk2 : x.kind ≠ 2 := hk
      simp [fixI, hk2]
    · have hk2 : x.kind = 2 := hk
      obtain ⟨h4, h5⟩ := wrong_known hw hk2
      have hv : x.hv = true := by simp [Inf.hv, hk2]
      have e : (fixI M x).va = x.va := by simp [fixI, hv]
      refine ⟨by rw [e]; exact h4, fun k hkm => ?_, ?_⟩
      · rw [e] at hkm
        rw [lookE_more (h5 k hkm)]; exact h5 k hkm
      · rw [e, maxH_more h5]
        simp [fixI, hk2]
theorem addA_wrong {M : List Ent} {x : Inf} (h : addA M [x] = 0) : wrongL M [x] = 0 ∧ lookE M (key x.name) = none := by
  have h1 : wrongL M [x] = 0 := by
    unfold addA at h
    split at h
    · simp at h
    · exact h
  exact ⟨h1, (wrongI_zero (wrongL_all h1 0 (by simp))).2.1⟩

/-- The world in the middle of EnvStays. -/
structure St (w0 W : World) (P : Nat → Prop) (e : Nat) (M : List Ent) (mo : Option Nat) (v vin : Value) (ps : List (Inf × IHd)) : Prop where
  env : EnvP P w0.heap.size W e M mo v
  base : ∀ q, P q → w0.heap.size ≤ q
  bel : Below w0.heap.size w0 W
  inr : InRow P w0.heap.size W vin ps
  apart : ∀ q, vin.ownBlock = some q → ¬ ownE e v mo q
  good : GoodM M
theorem St.below {w0 W W' : World} {P : Nat → Prop} {e : Nat} {M : List Ent} {mo : Option Nat} {v vin : Value} {ps : List (Inf × IHd)} (h : St w0 W P e M mo v vin ps) (b : Below W.heap.size W W') : St w0 W' P e M mo v vin ps :=
  ⟨h.env.below b, h.base, Trm.go h.bel b, ⟨row_same h.inr.row (fun q hq => b.block q (h.inr.row.lt q hq).2), h.inr.own, fun p hp => (h.inr.firm p hp).step (RanS.of_below b)⟩, h.apart, h.good⟩
theorem St.arg {w0 W : World} {P : Nat → Prop} {e : Nat} {M : List Ent} {mo : Option Nat} {v vin : Value} {ps : List (Inf × IHd)} (h : St w0 W P e M mo v vin ps) {x : Inf} {hd : IHd} (i : x.In w0.heap.size w0 hd) : FirmI P W x hd := FirmI.of (i.below h.bel) h.base h.bel.size
/-- What a step leaves behind Add of one info. -/
def StAdd (w0 : World) (e : Nat) (M : List Ent) (vin : Value) (ps : List (Inf × IHd)) (x : Inf) (y : Ending) (W' : World) : Prop :=
  y = .returned (.int .i64 (addA M [x])) ∧ ∃ M' mo' v' P', (addA M [x] = 0 → ∃ b hd, M' = M ++ [(b, fixI M x, hd)]) ∧ (addA M [x] ≠ 0 → M' = M) ∧ St w0 W' P' e M' mo' v' vin ps
theorem St.add {w0 W : World} {P : Nat → Prop} {e : Nat} {M : List Ent} {mo : Option Nat} {v vin : Value} {ps : List (Inf × IHd)} (h : St w0 W P e M mo v vin ps) {x : Inf} {hd : IHd} (i : x.In w0.heap.size w0 hd) (hr : x.rules.length ≤ 20) :
    Calls Tryz.prog 19 #[.pointer (some ⟨e, 0, none⟩), .slice (some ⟨W.heap.size, 0, none⟩) 1 1] (W.alloc (.cells (x.vals hd).toArray 46)) (StAdd w0 e M vin ps x) := by
  have hb : Below W.heap.size W (W.alloc (.cells (x.vals hd).toArray 46)) := below_one _ _
  have h2 := h.below hb
  refine (addP_any h2.env [x] (some ⟨W.heap.size, 0, none⟩) 1 (one_row (h.arg i) h.env.lt _) (by simp) (fun y hy => by simp at hy; subst hy; omega)).mono ?_
  rintro y W' ⟨hy, M', mo', v', P', hto, henv, hst, hran, hown, hsub⟩
  refine ⟨hy, M', mo', v', P', fun h0 => (hto.yes h0).one, fun h0 => hto.no h0, henv, fun q hq => ?_, ?_, ⟨row_same h2.inr.row (fun q hq => hran.block q (h2.inr.row.lt q hq).2 (h2.apart q hq)), fun q hq => hst.wide q (h2.inr.own q hq), fun p hp => hst.inf (h2.inr.firm p hp)⟩, fun q hq a => ?_, ?_⟩
  · have hs := h2.bel.size
    rcases hst.own q hq with a | a
    · exact h.base q a
    · omega
  · exact h2.bel.trans (hst.ran.below h2.base h2.bel.size)
  · rcases hown q a with b | b
    · exact h2.apart q hq b
    · have := (h2.inr.row.lt q hq).2; omega
  · by_cases h0 : addA M [x] = 0
    · obtain ⟨b, hd', rfl⟩ := (hto.yes h0).one
      exact h.good.snoc (addA_wrong h0).1 hr b hd'
    · rw [hto.no h0]; exact h.good
/-- .. and behind an append to the row. -/
theorem St.push {w0 W w1 : World} {P : Nat → Prop} {e : Nat} {M : List Ent} {mo : Option Nat} {v vin : Value} {ps : List (Inf × IHd)} (h : St w0 W P e M mo v vin ps) {x : Inf} {hd : IHd} (hf : FirmI P W x hd) {g cap n : Nat} (hn : n = ps.length)
    (hown : w1.ownsRow w0.heap.size 46 25 (.slice (some ⟨g, 0, none⟩) (n + 1) cap) (n + 1) (flatI ps ++ x.vals hd)) (hg : W.grownBy w1 vin.ownBlock) (hat : vin.ownBlock = some g ∨ g = W.heap.size) (hlt : g < w1.heap.size) :
    ∃ P', St w0 w1 P' e M mo v (.slice (some ⟨g, 0, none⟩) (n + 1) cap) (ps ++ [(x, hd)]) := by
  subst hn
  have hr : RanS (fun q => vin.ownBlock = some q) W w1 := ⟨hg.os, hg.tape, hg.output, hg.size, fun k hk hn => hg.block k hk (fun a => hn a.symm)⟩
  have hP : ∀ q, (P q ∨ q = g) → P q ∨ W.heap.size ≤ q := fun q hq => by
    rcases hq with a | a
    · exact Or.inl a
    · rcases hat with b | b
      · exact Or.inl (h.inr.own q (a ▸ b))
      · exact Or.inr (by omega)
  have hrP : RanS P W w1 := hr.wide (fun q a => h.inr.own q a)
  refine ⟨fun q => P q ∨ q = g, h.env.other hr (fun q a => h.inr.own q a) (fun q a b => h.apart q b a) hP (fun q a => Or.inl a) (fun q hq => ?_), fun q hq => ?_, h.bel.trans (hrP.below h.base h.bel.size), ⟨?_, fun q hq => ?_, fun p hp => ?_⟩, fun q hq a => ?_, h.good⟩
  · rcases hq with a | a
    · exact Nat.lt_of_lt_of_le (h.env.lt q a) hr.size
    · omega
  · rcases hP q hq with a | a
    · exact h.base q a
    · exact Nat.le_trans h.bel.size a
  · rw [List.length_append, List.length_singleton, flatI_snoc]; exact hown
  · injection hq with hq
    exact Or.inr hq.symm
  · rcases List.mem_append.1 hp with hp | hp
    · exact (h.inr.firm p hp).turn hrP hP
    · simp at hp
      subst hp
      exact hf.turn hrP hP
  · injection hq with hq
    have hq2 : g = q := hq
    subst hq2
    rcases hat with b | b
    · exact h.apart g b a
    · have := h.env.lt g (h.env.own g a); omega
theorem St.hold {w0 W : World} {P : Nat → Prop} {e : Nat} {M : List Ent} {mo : Option Nat} {v vin : Value} {ps : List (Inf × IHd)} (h : St w0 W P e M mo v vin ps) : ∀ p ∈ M, p.2.1.rules.length ≤ 1000 := fun p hp => by have := (h.good p hp).1; omega
end Env
end Go.Proofs.YtkbamiheclakmaaGreat


