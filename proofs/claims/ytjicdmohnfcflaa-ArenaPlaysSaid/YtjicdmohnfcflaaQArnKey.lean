/-
  The key of a term in an arena: what tells it apart from all others; as a value, as a key of the map.
-/
import Derived.Test.YtjicdmohnfcflaaQArnPlain
import Derived.Maps.OwnSet
import Derived.DeepKeys4
namespace Go.Proofs.Ytjicdmohnfcflaa
open Go.RowKit Go.Shelf Go.Maps Lvl Trm
namespace Arn
theorem laidOut : laidOutB Try.prog = true := by kernel_rfl
theorem wideK : (match Try.prog.underlying 73 with | some (.array _ _) | some (.struct _) => true | _ => false) = true := by kernel_rfl
theorem typeK : Try.prog.keyType 73 = true := by kernel_rfl
theorem lawK : Keyed Try.prog 73 := Keyed.of_law (deep_law_laid laidOut (m := 5) (by omega) (of_decide_eq_true (by kernel_rfl)) (by kernel_rfl) wideK)
theorem cells73 : Try.prog.cellsOf 73 = 28 := by kernel_rfl
theorem cells70 : Try.prog.cellsOf 70 = 20 := by kernel_rfl
theorem cells63 : Try.prog.cellsOf 63 = 5 := by kernel_rfl
theorem cells61 : Try.prog.cellsOf 61 = 4 := by kernel_rfl
theorem cells71 : Try.prog.cellsOf 71 = 3 := by kernel_rfl
theorem cells3 : Try.prog.cellsOf 3 = 1 := by kernel_rfl
theorem cells5 : Try.prog.cellsOf 5 = 1 := by kernel_rfl
theorem cells9 : Try.prog.cellsOf 9 = 1 := by kernel_rfl
theorem typesFew : ∃ d, Try.prog.types.size + 1 = d + 5 := ⟨_, (Nat.sub_add_cancel (of_decide_eq_true (by kernel_rfl))).symm⟩
theorem lits_int (d : Nat) {n : Int} (h : (Lit.int .i64 n).wf = true) : Try.prog.keyLits (d + 1) 3 [.int .i64 n] = some [.int .i64 n] := by
  simp [Program.keyLits, Try.underlying3, h]
theorem lits_u8 (d : Nat) {n : Int} (h : (Lit.int .u8 n).wf = true) : Try.prog.keyLits (d + 1) 5 [.int .u8 n] = some [.int .u8 n] := by
  simp [Program.keyLits, Try.underlying5, h]
theorem lits_str (d : Nat) {s : ByteArray} (h : s.size ≤ maxLen) : Try.prog.keyLits (d + 1) 9 [.string s] = some [.string s.data.toList] := by
  simp [Program.keyLits, Try.underlying9, h]

theorem lits_array {P : Program} {t e : TypeId} {n : Nat} (hu : P.underlying t = some (.array n e)) (d : Nat) (cs : List Value) (hc : cs.length = P.cellsOf t) :
    P.keyLits (d + 1) t cs = ((List.range n).mapM fun i => P.keyLits d e ((cs.drop (i * P.cellsOf e)).take (P.cellsOf e))).map List.flatten := by
  rw [Program.keyLits.eq_def]
  simp only [hu, hc, if_true]
theorem lits_struct {P : Program} {t : TypeId} {fs : Array Field} (hu : P.underlying t = some (.struct fs)) (d : Nat) (cs : List Value) (hc : cs.length = P.cellsOf t ∧ fs.all (·.name != "_") = true) :
    P.keyLits (d + 1) t cs = (fs.toList.mapM fun f => P.keyLits d f.type ((cs.drop f.offset).take (P.cellsOf f.type))).map List.flatten := by
  rw [Program.keyLits.eq_def]
  simp only [hu]
  rw [if_pos hc]
theorem lits_p (d : Nat) {a b c e : Int} (ha : (Lit.int .i64 a).wf = true) (hb : (Lit.int .i64 b).wf = true) (hc : (Lit.int .i64 c).wf = true) (he : (Lit.int .i64 e).wf = true) :
    Try.prog.keyLits (d + 2) 61 [.int .i64 a, .int .i64 b, .int .i64 c, .int .i64 e] = some [.int .i64 a, .int .i64 b, .int .i64 c, .int .i64 e] := by
  rw [lits_array Try.underlying61 _ _ (by rw [cells61]; rfl)]
  simp [cells3, List.range_succ, lits_int, ha, hb, hc, he]
theorem lits_q (d : Nat) {a b c : Int} (ha : (Lit.int .i64 a).wf = true) (hb : (Lit.int .i64 b).wf = true) (hc : (Lit.int .i64 c).wf = true) :
    Try.prog.keyLits (d + 2) 71 [.int .i64 a, .int .i64 b, .int .i64 c] = some [.int .i64 a, .int .i64 b, .int .i64 c] := by
  rw [lits_array Try.underlying71 _ _ (by rw [cells71]; rfl)]
  simp [cells3, List.range_succ, lits_int, ha, hb, hc]
def lvC (l : Lv) : List Value := [.int .i64 l.c, .int .i64 l.p0, .int .i64 l.p1, .int .i64 l.p2, .int .i64 l.p3]
structure lvW (l : Lv) : Prop where
  c : (Lit.int .i64 l.c).wf = true
  p0 : (Lit.int .i64 l.p0).wf = true
  p1 : (Lit.int .i64 l.p1).wf = true
  p2 : (Lit.int .i64 l.p2).wf = true
  p3 : (Lit.int .i64 l.p3).wf = true
theorem lits_lv (d : Nat) {l : Lv} (h : lvW l) :
    Try.prog.keyLits (d + 3) 63 (lvC l) = some [.int .i64 l.c, .int .i64 l.p0, .int .i64 l.p1, .int .i64 l.p2, .int .i64 l.p3] := by
  rw [lits_struct Try.underlying63 _ _ ⟨by rw [cells63]; rfl, by simp⟩]
  simp [cells3, cells61, lvC, lits_int, lits_p, h.c, h.p0, h.p1, h.p2, h.p3]
theorem lits_ls (d : Nat) {a b c e : Lv} (ha : lvW a) (hb : lvW b) (hc : lvW c) (he : lvW e) :
    ∃ l, Try.prog.keyLits (d + 4) 70 (lvC a ++ lvC b ++ lvC c ++ lvC e) = some l := by
  rw [lits_array Try.underlying70 _ _ (by rw [cells70]; rfl)]
  have e0 : ((lvC a ++ lvC b ++ lvC c ++ lvC e).drop (0 * 5)).take 5 = lvC a := rfl
  have e1 : ((lvC a ++ lvC b ++ lvC c ++ lvC e).drop (1 * 5)).take 5 = lvC b := rfl
  have e2 : ((lvC a ++ lvC b ++ lvC c ++ lvC e).drop (2 * 5)).take 5 = lvC c := rfl
  have e3 : ((lvC a ++ lvC b ++ lvC c ++ lvC e).drop (3 * 5)).take 5 = lvC e := rfl
  rw [cells63]
  simp only [List.range_succ, List.range_zero, List.nil_append, List.mapM_cons, List.mapM_nil, List.cons_append, e0, e1, e2, e3, lits_lv _ ha, lits_lv _ hb, lits_lv _ hc, lits_lv _ he]
  exact ⟨_, rfl⟩
def keyL (s : ByteArray) (k n ln : Int) (a b c e : Lv) (m x y z : Int) : List Value :=
  [.string s, .int .u8 k, .int .i64 n, .int .i64 ln] ++ (lvC a ++ lvC b ++ lvC c ++ lvC e) ++ [.int .i64 m, .int .i64 x, .int .i64 y, .int .i64 z]
theorem key_some {s : ByteArray} {k n ln : Int} {a b c e : Lv} {m x y z : Int} (hs : s.size ≤ maxLen) (hk : (Lit.int .u8 k).wf = true) (hn : (Lit.int .i64 n).wf = true) (hl : (Lit.int .i64 ln).wf = true) (ha : lvW a) (hb : lvW b) (hc : lvW c) (he : lvW e)
    (hm : (Lit.int .i64 m).wf = true) (hx : (Lit.int .i64 x).wf = true) (hy : (Lit.int .i64 y).wf = true) (hz : (Lit.int .i64 z).wf = true) :
    ∃ l, keyOf Try.prog 73 (.agg (keyL s k n ln a b c e m x y z).toArray) = some l := by
  unfold keyOf
  simp only [Try.underlying73]
  rw [if_pos]
  · obtain ⟨d, hd⟩ := typesFew
    rw [hd, show (Value.agg (keyL s k n ln a b c e m x y z).toArray).cells.toList = keyL s k n ln a b c e m x y z by simp [Value.cells], lits_struct Try.underlying73 _ _ ⟨by rw [cells73]; rfl, by simp⟩]
    obtain ⟨q, hq⟩ := lits_ls d ha hb hc he
    have e1 : ((keyL s k n ln a b c e m x y z).drop 0).take 1 = [.string s] := rfl
    have e2 : ((keyL s k n ln a b c e m x y z).drop 1).take 1 = [.int .u8 k] := rfl
    have e3 : ((keyL s k n ln a b c e m x y z).drop 2).take 1 = [.int .i64 n] := rfl
    have e4 : ((keyL s k n ln a b c e m x y z).drop 3).take 1 = [.int .i64 ln] := rfl
    have e5 : ((keyL s k n ln a b c e m x y z).drop 4).take 20 = lvC a ++ lvC b ++ lvC c ++ lvC e := rfl
    have e6 : ((keyL s k n ln a b c e m x y z).drop 24).take 1 = [.int .i64 m] := rfl
    have e7 : ((keyL s k n ln a b c e m x y z).drop 25).take 3 = [.int .i64 x, .int .i64 y, .int .i64 z] := rfl
    simp only [List.mapM_cons, List.mapM_nil, cells9, cells5, cells3, cells70, cells71, e1, e2, e3, e4, e5, e6, e7]
    rw [lits_str _ hs, lits_u8 _ hk, lits_int _ hn, lits_int _ hl, hq, lits_int _ hm, lits_q _ hx hy hz]
    exact ⟨_, rfl⟩
  · rw [typeK]
    simp [Value.formed, Try.underlying73, cells73, keyL, lvC]

def zeroLv : Lv := ⟨0, 0, 0, 0, 0⟩
def pad (ls : List Lv) (i : Nat) : Lv := ls.getD i zeroLv
def arr (ns : List Nat) (i : Nat) : Int := (ns.getD i 0 : Nat)
noncomputable def nums (L : List Tm) (t : Tm) : List Nat := t.ts.map (num L)
/-- The key of a term, the parts of which have these numbers. -/
def keyN (t : Tm) (ns : List Nat) : List Value := keyL t.s t.k t.n t.ls.length (pad t.ls 0) (pad t.ls 1) (pad t.ls 2) (pad t.ls 3) t.ts.length (arr ns 0) (arr ns 1) (arr ns 2)
noncomputable def keyT (L : List Tm) (t : Tm) : List Value := keyN t (nums L t)
noncomputable def nodeT (L : List Tm) (t : Tm) : List Value := keyT L t ++ [.int .i64 t.size, .int .i64 t.ht, .int .i64 t.free]
theorem keyN_len (t : Tm) (ns : List Nat) : (keyN t ns).length = 28 := rfl
theorem nodeT_len (L : List Tm) (t : Tm) : (nodeT L t).length = 31 := rfl
theorem nums_prefix {L M : List Tm} (h : L <+: M) {t : Tm} (hp : ∀ y ∈ t.ts, y ∈ L) : nums M t = nums L t := by
  unfold nums
  exact List.map_congr_left fun y hy => num_prefix h (hp y hy)
theorem keyT_prefix {L M : List Tm} (h : L <+: M) {t : Tm} (hp : ∀ y ∈ t.ts, y ∈ L) : keyT M t = keyT L t := by
  unfold keyT; rw [nums_prefix h hp]
theorem nodeT_prefix {L M : List Tm} (h : L <+: M) {t : Tm} (hp : ∀ y ∈ t.ts, y ∈ L) : nodeT M t = nodeT L t := by
  unfold nodeT; rw [keyT_prefix h hp]

theorem node_ls {t : Tm} (h : t.node = true) : t.ls.length ≤ 4 := by
  unfold Tm.node at h
  simp only [Bool.and_eq_true] at h
  have h6 := h.2
  split at h6
  · simp only [decide_eq_true_eq] at h6; omega
  · split at h6 <;> (simp only [decide_eq_true_eq] at h6; omega)
theorem node_may {t : Tm} (h : t.node = true) : t.ls.all Lv.may = true := by
  unfold Tm.node at h
  simp only [Bool.and_eq_true] at h
  exact h.1.1.1.2
theorem node_str {t : Tm} (h : t.node = true) : t.s.size ≤ 32 := by
  unfold Tm.node at h
  simp only [Bool.and_eq_true] at h
  have h6 := h.1.1.2
  split at h6
  · unfold nameOk at h6; simp only [Bool.and_eq_true, decide_eq_true_eq] at h6; omega
  · simp only [decide_eq_true_eq] at h6; omega
theorem pads_inj : ∀ {a b : List Lv}, a.length = b.length → a.length ≤ 4 → (∀ i, i < 4 → pad a i = pad b i) → a = b := by
  intro a b hl h4 h
  refine List.ext_getElem hl fun i h1 h2 => ?_
  have := h i (by omega)
  unfold pad at this
  rw [List.getD_eq_getElem?_getD, List.getD_eq_getElem?_getD, List.getElem?_eq_getElem h1, List.getElem?_eq_getElem h2] at this
  exact this
theorem arr_inj : ∀ {a b : List Nat}, a.length = b.length → a.length ≤ 3 → (∀ i, i < 3 → arr a i = arr b i) → a = b := by
  intro a b hl h4 h
  refine List.ext_getElem hl fun i h1 h2 => ?_
  have := h i (by omega)
  unfold arr at this
  rw [List.getD_eq_getElem?_getD, List.getD_eq_getElem?_getD, List.getElem?_eq_getElem h1, List.getElem?_eq_getElem h2] at this
  simp at this; omega
theorem lvC_inj {a b : Lv} (h : lvC a = lvC b) : a = b := by
  cases a; cases b; simp [lvC] at h; simp [h]
theorem map_num_inj {L : List Tm} : ∀ {a b : List Tm}, (∀ y ∈ a, y ∈ L) → (∀ y ∈ b, y ∈ L) → a.map (num L) = b.map (num L) → a = b
  | [], [], _, _, _ => rfl
  | [], y :: r, _, _, h => by simp at h
  | x :: q, [], _, _, h => by simp at h
  | x :: q, y :: r, ha, hb, h => by
    simp only [List.map_cons, List.cons.injEq] at h
    rw [num_inj (ha x (by simp)) (hb y (by simp)) h.1, map_num_inj (fun z hz => ha z (by simp [hz])) (fun z hz => hb z (by simp [hz])) h.2]
theorem keyT_inj {L : List Tm} {t u : Tm} (ht : t.node = true) (hp : ∀ y ∈ t.ts, y ∈ L) (hq : ∀ y ∈ u.ts, y ∈ L) (h : keyT L t = keyT L u) : t = u := by
  unfold keyT keyN keyL at h
  have h1 := List.append_inj h rfl
  have h2 := List.append_inj h1.1 rfl
  have h3 := List.append_inj h2.2 rfl
  have h4 := List.append_inj h3.1 rfl
  have h5 := List.append_inj h4.1 rfl
  have e1 := h2.1
  have e2 := h1.2
  simp only [List.cons.injEq, Value.string.injEq, Value.int.injEq, true_and, and_true] at e1 e2
  obtain ⟨a1, a2, a3, a4⟩ := e1
  obtain ⟨b1, b2, b3, b4⟩ := e2
  have hls : t.ls = u.ls := pads_inj (by omega) (node_ls ht) (fun i hi => by
    rcases (show i = 0 ∨ i = 1 ∨ i = 2 ∨ i = 3 by omega) with rfl | rfl | rfl | rfl
    · exact lvC_inj h5.1
    · exact lvC_inj h5.2
    · exact lvC_inj h4.2
    · exact lvC_inj h3.2)
  have hns : nums L t = nums L u := arr_inj (by simp [nums]; omega) (by simp [nums]; exact (node_few ht).2.1) (fun i hi => by
    rcases (show i = 0 ∨ i = 1 ∨ i = 2 by omega) with rfl | rfl | rfl
    · exact b2
    · exact b3
    · exact b4)
  have hts := map_num_inj hp hq hns
  rw [Tm.eta t, Tm.eta u, a1, a2, a3, hls, hts]
theorem wf_i64 {n : Int} (h0 : -9223372036854775808 ≤ n) (h1 : n ≤ 9223372036854775807) : (Lit.int .i64 n).wf = true := by
  simp [Lit.wf, IntKind.min, IntKind.max, IntKind.signed, IntKind.bits]; omega
theorem wf_u8 {n : Int} (h0 : 0 ≤ n) (h1 : n ≤ 255) : (Lit.int .u8 n).wf = true := by
  simp [Lit.wf, IntKind.min, IntKind.max, IntKind.signed, IntKind.bits]; omega
theorem pad_wf {ls : List Lv} (h : ls.all Lv.may = true) (i : Nat) : lvW (pad ls i) := by
  have key : pad ls i = zeroLv ∨ pad ls i ∈ ls := by
    unfold pad
    rw [List.getD_eq_getElem?_getD]
    by_cases hi : i < ls.length
    · right; rw [List.getElem?_eq_getElem hi]; exact List.getElem_mem hi
    · left; rw [List.getElem?_eq_none (by omega)]; rfl
  rcases key with e | hm
  · rw [e]; exact ⟨by decide, by decide, by decide, by decide, by decide⟩
  · have hw := (Lvl.within_iff _).1 (may_within (List.all_eq_true.1 h _ hm))
    exact ⟨wf_i64 (by omega) (by omega), wf_i64 (by omega) (by omega), wf_i64 (by omega) (by omega), wf_i64 (by omega) (by omega), wf_i64 (by omega) (by omega)⟩
theorem arr_wf {ns : List Nat} (h : ∀ n ∈ ns, n ≤ 1000000000) (i : Nat) : 0 ≤ arr ns i ∧ arr ns i ≤ 1000000000 := by
  unfold arr
  rw [List.getD_eq_getElem?_getD]
  by_cases hi : i < ns.length
  · rw [List.getElem?_eq_getElem hi]
    have := h _ (List.getElem_mem hi)
    simp; omega
  · rw [List.getElem?_eq_none (by omega)]; simp
theorem num_le (L : List Tm) (t : Tm) : num L t ≤ L.length := List.idxOf_le_length
/-- The key as a value is a key of the map. -/
theorem keyT_some {L : List Tm} {t : Tm} (ht : t.node = true) (hL : L.length ≤ 1000000) : ∃ l, keyOf Try.prog 73 (.agg (keyT L t).toArray) = some l := by
  have hf := node_few ht
  have hn := node_num ht
  have hls := node_ls ht
  have hm := node_may ht
  have hns : ∀ n ∈ nums L t, n ≤ 1000000000 := fun n h => by
    unfold nums at h
    obtain ⟨y, _, rfl⟩ := List.mem_map.1 h
    have := num_le L y; omega
  have ha := fun i => arr_wf hns i
  exact key_some (by have := node_str ht; unfold maxLen; omega) (wf_u8 (by omega) (by omega)) (wf_i64 (by omega) (by omega)) (wf_i64 (by omega) (by omega)) (pad_wf hm 0) (pad_wf hm 1) (pad_wf hm 2) (pad_wf hm 3) (wf_i64 (by omega) (by omega))
    (wf_i64 (by have := ha 0; omega) (by have := ha 0; omega)) (wf_i64 (by have := ha 1; omega) (by have := ha 1; omega)) (wf_i64 (by have := ha 2; omega) (by have := ha 2; omega))
/-- The key as the map's datum has it. -/
noncomputable def kl (L : List Tm) (t : Tm) : Lit := (keyOf Try.prog 73 (.agg (keyT L t).toArray)).getD (.bool false)
theorem kl_some {L : List Tm} {t : Tm} (ht : t.node = true) (hL : L.length ≤ 1000000) : keyOf Try.prog 73 (.agg (keyT L t).toArray) = some (kl L t) := by
  obtain ⟨l, h⟩ := keyT_some ht hL
  unfold kl; rw [h]; rfl
theorem kl_key {L : List Tm} {t : Tm} (ht : t.node = true) (hL : L.length ≤ 1000000) : WideAt.IsKeyLit (kl L t) := lawK.key (kl_some ht hL)
theorem kl_inj {L : List Tm} {t u : Tm} (ht : t.node = true) (hu : u.node = true) (hL : L.length ≤ 1000000) (hp : ∀ y ∈ t.ts, y ∈ L) (hq : ∀ y ∈ u.ts, y ∈ L) (h : kl L t = kl L u) : t = u := by
  have h1 := kl_some ht hL
  have h2 := kl_some hu hL
  rw [← h] at h2
  have h3 := lawK.inj h1 h2
  injection h3 with h4
  exact keyT_inj ht hp hq (by simpa using h4)
theorem kl_prefix {L M : List Tm} (h : L <+: M) {t : Tm} (hp : ∀ y ∈ t.ts, y ∈ L) : kl M t = kl L t := by
  unfold kl; rw [keyT_prefix h hp]

/-- The map's datum has these keys, each with its place. -/
structure Tied (D : DataW Unit) (ks : List Lit) : Prop where
  isMap : IsMap D
  has : ∀ k, WideAt.IsKeyLit k → (Maps.has D k = true ↔ k ∈ ks)
  at_ : ∀ (i : Nat) (h : i < ks.length) z, D.atKey ks[i] z = .lit (.int .i64 i)
theorem Tied.nil : Tied (.map []) [] := ⟨⟨[], rfl⟩, fun k _ => by simp [Maps.has], fun i h => by simp at h⟩
theorem Tied.snoc {D : DataW Unit} {ks : List Lit} (h : Tied D ks) {k : Lit} (hk : WideAt.IsKeyLit k) (hn : k ∉ ks) : Tied (D.put k (.lit (.int .i64 ks.length))) (ks ++ [k]) where
  isMap := h.isMap.put _ _
  has x hx := by
    by_cases e : x = k
    · subst e; rw [has_put_same h.isMap hk]; simp
    · rw [has_put_other e, h.has x hx]; simp [e]
  at_ i hi z := by
    by_cases hl : i < ks.length
    · rw [List.getElem_append_left hl, atKey_put_other (fun e => hn (by rw [← e]; exact List.getElem_mem hl))]
      exact h.at_ i hl z
    · have hi2 : i = ks.length := by simp at hi; omega
      subst hi2
      simp only [List.getElem_append_right (Nat.le_refl _), Nat.sub_self, List.getElem_cons_zero]
      exact atKey_put_same h.isMap hk _ _
end Arn
end Go.Proofs.Ytjicdmohnfcflaa

