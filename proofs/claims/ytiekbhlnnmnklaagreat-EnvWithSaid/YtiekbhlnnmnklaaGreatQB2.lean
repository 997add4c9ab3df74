/-
  term.Name, battenref03.Name.
-/
import Derived.Test.YtiekbhlnnmnklaaGreatQB1
import Derived.BigQuiet
import Derived.Deep.QuietTactic
import Derived.Deep.RegionHeld3
import Derived.IntWalk
import Derived.Deep.MidRow
import Derived.Shelf.RegionOpen
import Derived.Deep.AppendLies
import Derived.Laws.OwnMore
import Derived.Deep.LoopGhost
namespace Go.Proofs.YtiekbhlnnmnklaaGreat
open Go.RowKit Go.Shelf Lvl Trm

set_option maxRecDepth 100000 in
set_option maxHeartbeats 1000000 in
theorem inName_any (x : Int) (w : World) :
    Calls Tryz.prog 149 #[.int .u8 x] w fun e w' => e = .returned (.bool (inNameI x)) ∧ w = w' := by
  go_enter Tryz.func149, Tryz.ntmps149
  go_wp2_with fail
  all_goals
    go_ret
    refine ⟨ret_bool ?_, rfl⟩
    unfold inNameI
    rw [Bool.eq_iff_iff]
    simp
    try omega

theorem Trm.nameOk_no {s : ByteArray} (h : s.size = 0 ∨ 32 < s.size) : nameOk s = false := by
  unfold nameOk
  rcases h with h | h <;> simp [h]
  omega
theorem Trm.all_take_no {l : List UInt8} {k : Nat} (hk : k < l.length) (h : inName l[k] = false) : l.all inName = false := by
  rw [List.all_eq_false]
  exact ⟨l[k], List.getElem_mem hk, by simp [h]⟩
theorem Trm.all_take_yes {l : List UInt8} {k : Nat} (hk : k < l.length) (ht : (l.take k).all inName = true) (h : inName l[k] = true) : (l.take (k + 1)).all inName = true := by
  rw [List.take_succ_eq_append_getElem hk, List.all_append, ht]
  simp [h]
def Trm.NameRel (s : ByteArray) (i : Value) : Prop := ∃ k : Nat, i = .int .i64 k ∧ k ≤ s.size ∧ (s.data.toList.take k).all inName = true

set_option maxRecDepth 100000 in
set_option maxHeartbeats 1000000 in
theorem Name_any (s : ByteArray) (w : World) (hs : s.size ≤ 9223372036854775807) :
    Calls Tryz.prog 101 #[.string s] w fun e w' => e = .returned (.bool (nameOk s)) ∧ w = w' := by
  by_cases h0 : s.size = 0
  · rw [nameOk_no (Or.inl h0)]
    go_enter Tryz.func101, Tryz.ntmps101
    go_wp2
    go_ret
    exact ⟨rfl, rfl⟩
  · by_cases h1 : 32 < s.size
    · rw [nameOk_no (Or.inr h1)]
      go_enter Tryz.func101, Tryz.ntmps101
      go_wp2
      go_ret
      exact ⟨rfl, rfl⟩
    · have hok : nameOk s = s.data.toList.all inName := by unfold nameOk; simp [show 1 ≤ s.size by omega, show s.size ≤ 32 by omega]
      rw [hok]
      obtain ⟨G, hG⟩ : ∃ G, G = s.data.toList.all inName := ⟨_, rfl⟩
      rw [← hG]
      have HG := Lib.hid hG
      clear hok hG
      have h0' : ((s.size : Int) == 0) = false := by simpa using h0
      have h1' : (s.size : Int) ≤ 32 := by omega
      go_enter Tryz.func101, Tryz.ntmps101
      go_wp2
      go_loop [14] (fun i => NameRel s i) (fun i => s.size - (intOf i).toNat)
      case atStart => exact ⟨0, rfl, by omega, by simp⟩
      case round =>
        obtain ⟨k, rfl, hk, hall⟩ := hrel
        have HA := Lib.hid hall
        clear hall
        by_cases hlt : k < s.size
        · have hl : k < s.data.toList.length := by simpa using hlt
          have hget : s.data.toList[k] = s[k] := rfl
          cases hin : inName s[k]
          · have HF : Hid (false = G) := by rw [HG.out, all_take_no hl (by rw [hget]; exact hin)]; rfl
            have hin' : inNameI (s[k].toNat : Int) = false := hin
            have HC : Hid (∀ w, Calls Tryz.prog 149 #[.int .u8 (s[k].toNat : Int)] w fun e w' => e = .returned (.bool false) ∧ w = w') := fun w => by rw [← hin']; exact inName_any _ w
            clear hin hin' hget
            go_wp2_with fail
            refine (HC.out _).mono ?_
            rintro e w1 ⟨rfl, rfl⟩
            go_wp2_with fail
            go_ret
            exact ⟨ret_bool HF.out, rfl⟩
          · have HF := Lib.hid (all_take_yes hl HA.out (by rw [hget]; exact hin))
            have hin' : inNameI (s[k].toNat : Int) = true := hin
            have HC : Hid (∀ w, Calls Tryz.prog 149 #[.int .u8 (s[k].toNat : Int)] w fun e w' => e = .returned (.bool true) ∧ w = w') := fun w => by rw [← hin']; exact inName_any _ w
            clear hin hin' hget
            go_wp2_with fail
            refine (HC.out _).mono ?_
            rintro e w1 ⟨rfl, rfl⟩
            go_wp2_with fail
            go_round
            case rel => exact ⟨k + 1, by go_num, by omega, HF.out⟩
            case measure => simp [intOf]; omega
        · have HE : Hid (true = G) := by
            have := HA.out
            rw [List.take_of_length_le (by simp; omega)] at this
            rw [HG.out, this]; rfl
          go_wp2_with fail
          go_ret
          exact ⟨ret_bool HE.out, rfl⟩

end Go.Proofs.YtiekbhlnnmnklaaGreat



namespace Go.Proofs.YtiekbhlnnmnklaaGreat
open Go.RowKit Go.Shelf Lvl Trm

/-- What is asked of the fields of a node. -/
structure Trm.Kd where
  least : Int
  most : Int
  named : Bool
  top : Int
  terms : Int
  binds : Bool
def Trm.Kd.vals (a : Kd) : Array Value := #[.int .i64 a.least, .int .i64 a.most, .bool a.named, .int .i64 a.top, .int .i64 a.terms, .bool a.binds]
def Trm.Kd.val (a : Kd) : Value := .agg a.vals
def Trm.Kd.box (a : Kd) : Obj := .cells a.vals 208
def Trm.kd (k : Int) : Kd :=
  if k = 1 then ⟨1, 1, false, 0, 0, false⟩ else if k = 2 then ⟨0, 0, false, 1048576, 0, false⟩ else if k = 3 then ⟨0, 4, true, 0, 0, false⟩
  else if k = 4 then ⟨0, 0, false, 0, 2, false⟩ else if k = 5 ∨ k = 6 then ⟨0, 0, false, 0, 2, true⟩ else if k = 7 then ⟨0, 0, false, 0, 3, true⟩
  else if k = 8 then ⟨0, 0, true, 11, 1, false⟩ else ⟨0, 0, false, 0, 0, false⟩
def Trm.isKind (k : Int) : Bool := decide (1 ≤ k ∧ k ≤ 8)

theorem Trm.Kd.cells {a : Kd} {b : Nat} {w : World} (h : w.heap[b]? = some a.box) :
    w.cell? ⟨b, 0, none⟩ = some (.int .i64 a.least) ∧ w.cell? ⟨b, 1, none⟩ = some (.int .i64 a.most) ∧ w.cell? ⟨b, 2, none⟩ = some (.bool a.named) ∧ w.cell? ⟨b, 3, none⟩ = some (.int .i64 a.top) ∧ w.cell? ⟨b, 4, none⟩ = some (.int .i64 a.terms) ∧ w.cell? ⟨b, 5, none⟩ = some (.bool a.binds) := by
  refine ⟨?_, ?_, ?_, ?_, ?_, ?_⟩ <;> (simp [World.cell?, h, Kd.box, Kd.vals])

set_option maxRecDepth 100000 in
set_option maxHeartbeats 2000000 in
theorem kindOf_any (k : Int) (w : World) :
    Calls Tryz.prog 174 #[.int .u8 k] w fun e w' => e = .returned (.tuple #[(kd k).val, .bool (isKind k)]) ∧ Below w.heap.size w w' := by
  by_cases h : k = 1 ∨ k = 2 ∨ k = 3 ∨ k = 4 ∨ k = 5 ∨ k = 6 ∨ k = 7 ∨ k = 8
  · rcases h with rfl | rfl | rfl | rfl | rfl | rfl | rfl | rfl
    all_goals
      go_enter Tryz.func174, Tryz.ntmps174
      go_wp2_with fail
      exact bodyPost_ret (v := .tuple #[(kd _).val, .bool (isKind _)]) (by simp [results, Tryz.results174, go_sem, kd, Kd.val, Kd.vals, isKind]; try rfl) rfl ⟨rfl, below_one _ _⟩
  · have h1 : k ≠ 1 := fun e => h (by omega)
    have h2 : k ≠ 2 := fun e => h (by omega)
    have h3 : k ≠ 3 := fun e => h (by omega)
    have h4 : k ≠ 4 := fun e => h (by omega)
    have h5 : k ≠ 5 := fun e => h (by omega)
    have h6 : k ≠ 6 := fun e => h (by omega)
    have h7 : k ≠ 7 := fun e => h (by omega)
    have h8 : k ≠ 8 := fun e => h (by omega)
    have hk : kd k = ⟨0, 0, false, 0, 0, false⟩ := by unfold kd; simp [h1, h2, h3, h4, h5, h6, h7, h8]
    have hi : isKind k = false := by unfold isKind; simp; omega
    rw [hk, hi]
    clear hk hi h
    go_enter Tryz.func174, Tryz.ntmps174
    go_wp2_with fail
    exact bodyPost_ret (v := .tuple #[(⟨0, 0, false, 0, 0, false⟩ : Kd).val, .bool false]) (by simp [results, Tryz.results174, go_sem, Kd.val, Kd.vals]; try rfl) rfl ⟨rfl, below_one _ _⟩
end Go.Proofs.YtiekbhlnnmnklaaGreat



namespace Go.Proofs.YtiekbhlnnmnklaaGreat
open Go.RowKit Go.Shelf Lvl Trm

set_option maxRecDepth 100000 in
theorem Deep_any (t : Tm) (h : Hd) (w : World) (hin : t.In w.heap.size w h) :
    Calls Tryz.prog 15 #[t.val h] w fun e w' => e = .returned (.bool t.deep) ∧ Below w.heap.size w w' := by
  have HX := Lib.hid (deep_any t h 131072 8192)
  have HI := Lib.hid (Tm.In.mono (B' := (w.alloc (t.box h)).heap.size) (by simp) _ _ (Tm.In.below (below_one w (t.box h)) _ _ hin))
  have HL := Lib.hid (t.left_ge badDeep 131072 8192)
  obtain ⟨X, hX⟩ : ∃ X, X = t.left badDeep 131072 8192 := ⟨_, rfl⟩
  have hd : t.deep = decide (X < 0) := by rw [hX]; rfl
  rw [← hX] at HX HL
  rw [hd]
  clear hX hd hin
  unfold Tm.val Tm.vals at HX ⊢
  go_enter Tryz.func15, Tryz.ntmps15
  go_wp2_with fail
  refine (HX.out _ (by decide) (by decide) (by decide) (by decide) HI.out).mono ?_
  rintro e w1 ⟨rfl, b1⟩
  have HB := Lib.hid ((below_one w (t.box h)).trans (b1.mono (by simp)))
  have hX := HL.out
  clear b1 HL HX HI
  go_wp2_with fail
  go_ret
  exact ⟨rfl, HB.out⟩

theorem Trm.Tm.size_eq (t : Tm) : t.size = 1 + sizeL t.ts := by cases t; rw [Tm.size]; rfl
theorem Trm.sizeL_pos : ∀ ts : List Tm, (∀ x ∈ ts, 1 ≤ x.size) → (ts.length : Int) ≤ sizeL ts
  | [], _ => by rw [sizeL]; simp
  | t :: r, h => by
    have h1 := h t (by simp)
    have h2 := sizeL_pos r (fun x hx => h x (by simp [hx]))
    rw [sizeL]
    simp
    omega
theorem Trm.Tm.size_pos (t : Tm) : 1 ≤ t.size := by
  induction t using Tm.ind with
  | h t ih => have := sizeL_pos t.ts ih; rw [Tm.size_eq]; omega
theorem Trm.sizeL_ge (ts : List Tm) : 0 ≤ sizeL ts := by have := sizeL_pos ts (fun x _ => x.size_pos); omega
end Go.Proofs.YtiekbhlnnmnklaaGreat



namespace Go.Proofs.YtiekbhlnnmnklaaGreat
open Go.RowKit Go.Shelf Lvl Trm

/-- w' is w with new blocks, and perhaps other things in block m. -/
structure Trm.Ran (m : Nat) (w w' : World) : Prop where
  os : w'.os = w.os
  tape : w'.tape = w.tape
  output : w'.output = w.output
  size : w.heap.size ≤ w'.heap.size
  block : ∀ k, k < w.heap.size → k ≠ m → w'.heap[k]? = w.heap[k]?
theorem Trm.Ran.refl (m : Nat) (w : World) : Ran m w w := ⟨rfl, rfl, rfl, Nat.le_refl _, fun _ _ _ => rfl⟩
theorem Trm.Ran.trans {m : Nat} {a b c : World} (h : Ran m a b) (k : Ran m b c) : Ran m a c :=
  ⟨k.os.trans h.os, k.tape.trans h.tape, k.output.trans h.output, Nat.le_trans h.size k.size, fun i hi hm => (k.block i (Nat.lt_of_lt_of_le hi h.size) hm).trans (h.block i hi hm)⟩
theorem Trm.Ran.of_below {m : Nat} {w w' : World} (h : Below w.heap.size w w') : Ran m w w' := ⟨h.os, h.tape, h.output, h.size, fun k hk _ => h.block k hk⟩
theorem Trm.Ran.below {m B : Nat} {w w' : World} (h : Ran m w w') (hm : B ≤ m) (hB : B ≤ w.heap.size) : Below B w w' :=
  ⟨h.os, h.tape, h.output, h.size, fun k hk => h.block k (by omega) (by omega)⟩
theorem Trm.Ran.keep {m : Nat} {w w' : World} (h : Ran m w w') {k : Nat} {o : Obj} (hk : w.heap[k]? = some o) (hm : k ≠ m) : w'.heap[k]? = some o := by
  rw [h.block k (Array.getElem?_eq_some_iff.1 hk).1 hm]; exact hk
theorem Trm.Ran.cell {m : Nat} {w w' : World} (h : Ran m w w') {p : Addr} (hp : p.block < w.heap.size) (hm : p.block ≠ m) : w'.cell? p = w.cell? p := World.cell?_of_block (h.block p.block hp hm)
theorem Trm.Ran.more {m : Nat} {w w' : World} (h : Ran m w w') (o : Obj) : Ran m w (w'.alloc o) := h.trans (Ran.of_below (below_one _ _))
theorem Trm.Ran.drewN {m : Nat} {w w' : World} (h : Ran m w w') (n : Nat) : Ran m w (w'.drewN n) := h.trans (Ran.of_below (by refine ⟨?_, ?_, ?_, ?_, ?_⟩ <;> simp [World.drewN]))

theorem Trm.kd_binds (k : Int) : (kd k).binds = binds k := by
  unfold kd binds
  by_cases h : k = 1 ∨ k = 2 ∨ k = 3 ∨ k = 4 ∨ k = 5 ∨ k = 6 ∨ k = 7 ∨ k = 8
  · rcases h with rfl | rfl | rfl | rfl | rfl | rfl | rfl | rfl <;> rfl
  · rw [if_neg (by omega), if_neg (by omega), if_neg (by omega), if_neg (by omega), if_neg (by omega), if_neg (by omega), if_neg (by omega)]
    simp; omega
theorem Trm.kd_terms (k : Int) (h : binds k = true) : (kd k).terms = kids k := by
  unfold binds at h
  simp at h
  rcases h with rfl | rfl | rfl <;> rfl
theorem Trm.kd_few (k : Int) : 0 ≤ (kd k).terms ∧ (kd k).terms ≤ 3 := by
  unfold kd
  by_cases h : k = 1 ∨ k = 2 ∨ k = 3 ∨ k = 4 ∨ k = 5 ∨ k = 6 ∨ k = 7 ∨ k = 8
  · rcases h with rfl | rfl | rfl | rfl | rfl | rfl | rfl | rfl <;> decide
  · rw [if_neg (by omega), if_neg (by omega), if_neg (by omega), if_neg (by omega), if_neg (by omega), if_neg (by omega), if_neg (by omega)]
    decide

abbrev Trm.fnv (f : FuncId) (C : Nat) : Value := .func (.func f) #[] #[.pointer (some ⟨C, 0, none⟩)]

/-- A term lies at an address outside of block m, its terms below B. -/
def Trm.RAt (B m : Nat) (w : World) (b o : Nat) (t : Tm) : Prop := b ≠ m ∧ b < w.heap.size ∧ ∃ h, TCells w b o t h ∧ t.In B w h
theorem Trm.TAt.root {B m : Nat} {w : World} {b o : Nat} {t : Tm} (h : TAt B w b o t) (hm : B ≤ m) (hB : B ≤ w.heap.size) : RAt B m w b o t := by
  obtain ⟨hb, hd, hc, hi⟩ := h
  exact ⟨by omega, by omega, hd, hc, hi⟩
theorem Trm.TCells.ran {m : Nat} {w w1 : World} {b o : Nat} {t : Tm} {h : Hd} (c : TCells w b o t h) (g : Ran m w w1) (hb : b < w.heap.size) (hm : b ≠ m) : TCells w1 b o t h :=
  ⟨(g.cell (p := ⟨b, _, none⟩) hb hm).trans c.c0, (g.cell (p := ⟨b, _, none⟩) hb hm).trans c.c1, (g.cell (p := ⟨b, _, none⟩) hb hm).trans c.c2, (g.cell (p := ⟨b, _, none⟩) hb hm).trans c.c3, (g.cell (p := ⟨b, _, none⟩) hb hm).trans c.c4⟩
theorem Trm.RAt.ran {B m : Nat} {w w1 : World} {b o : Nat} {t : Tm} (h : RAt B m w b o t) (g : Ran m w w1) (hm : B ≤ m) (hB : B ≤ w.heap.size) : RAt B m w1 b o t := by
  obtain ⟨hbm, hb, hd, hc, hi⟩ := h
  exact ⟨hbm, by have := g.size; omega, hd, hc.ran g hb hbm, Tm.In.below (g.below hm hB) _ _ hi⟩

/-- What is asked of a function that sees each node. -/
structure Trm.Sees {σ : Type} (B m C : Nat) (f : FuncId) (see : σ → Tm → Int → Int → σ × Bool) (Inv : σ → World → Prop) (Ok : Tm → Int → Prop) (Good : σ → Prop) : Prop where
  calls : ∀ st t b o d u w, Good st → Inv st w → Ok t d → 0 ≤ u → u ≤ d → RAt B m w b o t → B ≤ w.heap.size →
    Calls Tryz.prog f #[.pointer (some ⟨b, o, none⟩), .int .i64 d, .int .i64 u, .pointer (some ⟨C, 0, none⟩)] w fun e w' => e = .returned (.bool (see st t d u).2) ∧ Inv (see st t d u).1 w' ∧ Ran m w w'
  good : ∀ st t d u, Good st → Ok t d → (see st t d u).2 = true → Good (see st t d u).1
  bound : ∀ t d, Ok t d → 0 ≤ d ∧ d ≤ 1000000000000000
  down : ∀ st t d u, Ok t d → (see st t d u).2 = true → ∀ x ∈ t.ts, Ok x (d + 1)
  keep : ∀ st w w', Inv st w → Below w.heap.size w w' → Inv st w'
  low : B ≤ m
  enter : ∀ (args : Array Value) (w : World), Sem.run Tryz.prog (callFunc f args) w = .ok (.enter f args) w

mutual
theorem Trm.walk_good {σ : Type} {B m C : Nat} {f : FuncId} {see : σ → Tm → Int → Int → σ × Bool} {Inv : σ → World → Prop} {Ok : Tm → Int → Prop} {Good : σ → Prop} (S : Sees B m C f see Inv Ok Good) :
    ∀ (t : Tm) (st : σ) (d u : Int), Good st → Ok t d → (t.walk see st d u).2 = true → Good (t.walk see st d u).1
  | .mk k n s ls ts, st, d, u, hg, ho, h => by
    rw [Tm.walk] at h ⊢
    split at h
    · rename_i hs
      rw [if_pos hs]
      exact Trm.walkL_good S k ts 0 _ (d + 1) u (S.good _ _ _ _ hg ho hs) (fun x hx => S.down _ _ _ _ ho hs x hx) h
    · cases h
theorem Trm.walkL_good {σ : Type} {B m C : Nat} {f : FuncId} {see : σ → Tm → Int → Int → σ × Bool} {Inv : σ → World → Prop} {Ok : Tm → Int → Prop} {Good : σ → Prop} (S : Sees B m C f see Inv Ok Good) (k : Int) :
    ∀ (ts : List Tm) (i : Nat) (st : σ) (d u : Int), Good st → (∀ x ∈ ts, Ok x d) → (walkL see k ts i st d u).2 = true → Good (walkL see k ts i st d u).1
  | [], i, st, d, u, hg, _, _ => by rw [walkL]; exact hg
  | t :: r, i, st, d, u, hg, ho, h => by
    rw [walkL] at h ⊢
    split at h
    · rename_i hs
      rw [if_pos hs]
      exact Trm.walkL_good S k r (i + 1) _ d _ (Trm.walk_good S t st d _ hg (ho t (by simp)) hs) (fun x hx => ho x (by simp [hx])) h
    · cases h
end
/-- Behind some rounds through the terms of a node. -/
def Trm.WalkRel {σ : Type} (see : σ → Tm → Int → Int → σ × Bool) (Inv : σ → World → Prop) (Good : σ → Prop) (m A : Nat) (w0 : World) (bx : Obj) (t : Tm) (d u : Int) (G : σ × Bool) (vi vu : Value) (wr : World) : Prop :=
  ∃ (k : Nat) (st : σ) (u' : Int), vi = .int .i64 k ∧ vu = .int .i64 u' ∧ k ≤ t.ts.length ∧ (u' = u ∨ (u' = u + 1 ∧ kids t.k - 1 < k)) ∧ walkL see t.k (t.ts.drop k) k st (d + 1) u' = G ∧ Good st ∧ Inv st wr ∧ Ran m w0 wr ∧ wr.heap[A]? = some bx

theorem Trm.TCells.of {w w1 : World} {b o : Nat} {t : Tm} {h : Hd} (c : TCells w b o t h) {B : Nat} (g : Below B w w1) (hb : b < B) : TCells w1 b o t h := c.below g hb

theorem Trm.walk_fin {σ : Type} {Inv : σ → World → Prop} {m : Nat} {st : σ} {r : Bool} {R : σ × Bool} {w w' : World} (h : (st, r) = R) (hi : Inv st w') (hr : Ran m w w') :
    Ending.returned (.bool r) = Ending.returned (.bool R.2) ∧ Inv R.1 w' ∧ Ran m w w' := by subst h; exact ⟨rfl, hi, hr⟩

set_option maxRecDepth 100000 in
set_option maxHeartbeats 800000 in
theorem visit_any {σ : Type} {B m C Bs Bv : Nat} {f : FuncId} {see : σ → Tm → Int → Int → σ × Bool} {Inv : σ → World → Prop} {Ok : Tm → Int → Prop} {Good : σ → Prop} (S : Sees B m C f see Inv Ok Good) (hs : Bs ≠ m) (hv : Bv ≠ m) (t : Tm) :
    ∀ (st : σ) (b o : Nat) (d u : Int) (w : World), Good st → Inv st w → Ok t d → 0 ≤ u → u ≤ d → RAt B m w b o t → B ≤ w.heap.size → m < w.heap.size →
      w.heap[Bs]? = some (.cells #[fnv f C] 165) → w.heap[Bv]? = some (.cells #[.func (.func 173) #[] #[.pointer (some ⟨Bs, 0, none⟩), .pointer (some ⟨Bv, 0, none⟩)]] 165) →
      Calls Tryz.prog 173 #[.pointer (some ⟨b, o, none⟩), .int .i64 d, .int .i64 u, .pointer (some ⟨Bs, 0, none⟩), .pointer (some ⟨Bv, 0, none⟩)] w fun e w' => e = .returned (.bool (t.walk see st d u).2) ∧ Inv (t.walk see st d u).1 w' ∧ Ran m w w' := by
  induction t using Tm.ind with
  | h t ih =>
    intro st b o d u w hgood hinv hok hu0 hud hat hB hm hbs hbv
    have HIH := Lib.hid ih
    have HS := Lib.hid S
    clear ih
    obtain ⟨hd0, hd1⟩ := S.bound t d hok
    have HC := Lib.hid (S.calls st t b o d u w hgood hinv hok hu0 hud hat hB)
    have HG := Lib.hid (S.good st t d u hgood hok)
    have HD := Lib.hid (S.down st t d u hok)
    obtain ⟨R, hR⟩ : ∃ R, R = t.walk see st d u := ⟨_, rfl⟩
    rw [← hR]
    rw [Tm.walk_eq] at hR
    obtain ⟨T, hT⟩ : ∃ T, T = see st t d u := ⟨_, rfl⟩
    rw [← hT] at hR HC HG HD
    obtain ⟨st1, r1⟩ := T
    dsimp only at hR HC HG HD
    have hent := S.enter
    clear hT S hinv hgood hok
    have hbs0 := one_cell hbs
    have hbv0 := one_cell hbv
    have HBS := Lib.hid hbs
    have HBV := Lib.hid hbv
    obtain ⟨hbm, hb, h, hc0, hin0⟩ := hat
    have hts := hin0.fit.ts
    have HIN := Lib.hid hin0
    clear hbs hbv hin0
    cases r1
    · have hR' : R = (st1, false) := by rw [hR]; simp
      clear hR
      subst hR'
      go_enter Tryz.func173, Tryz.ntmps173
      go_wp2_with fail
      refine HC.out.mono ?_
      rintro e w1 ⟨rfl, i1, g1⟩
      clear hbs0 hbv0
      have HI := Lib.hid i1
      have HR1 := Lib.hid g1
      clear i1 g1
      go_wp2_with fail
      go_ret
      exact ⟨rfl, HI.out, HR1.out⟩
    · have hR' : walkL see t.k (t.ts.drop 0) 0 st1 (d + 1) u = R := by rw [hR]; simp
      have HR := Lib.hid hR'
      clear hR hR'
      have HB0 := Lib.hid hc0
      clear hc0
      go_enter Tryz.func173, Tryz.ntmps173
      go_wp2_with fail
      refine HC.out.mono ?_
      rintro e w1 ⟨rfl, i1, g1⟩
      clear hbs0 hbv0
      have hsz := g1.size
      obtain ⟨c0, c1, c2, c3, c4⟩ := HB0.out.ran g1 hb hbm
      have HI := Lib.hid i1
      have HR1 := Lib.hid g1
      clear i1 g1
      go_wp2_with fail
      refine (kindOf_any t.k _).mono ?_
      rintro e w2 ⟨rfl, b2⟩
      have hsz2 := b2.size
      clear c0 c1 c2 c3 c4
      obtain ⟨c0, c1, c2, c3, c4⟩ := HB0.out.ran (HR1.out.trans (Ran.of_below b2)) hb hbm
      have HI2 := Lib.hid (HS.out.keep _ _ _ HI.out (b2.trans ((below_one w2 (kd t.k).box).mono hsz2)))
      have HR2 := Lib.hid ((HR1.out.trans (Ran.of_below b2)).more (kd t.k).box)
      have HAX0 := Lib.hid (World.alloc_heap_new w2 (kd t.k).box)
      have HBD := Lib.hid (kd_binds t.k)
      have HTR := Lib.hid (kd_terms t.k)
      have hfew := kd_few t.k
      have hG2 := Lib.hid (HG.out (by trivial))
      unfold Kd.box at HI2 HR2 HAX0
      dsimp only [Kd.val, Kd.vals] at HI2 HR2 HAX0 ⊢
      generalize kd t.k = a at HI2 HR2 HAX0 HBD HTR hfew ⊢
      have hAm : w2.heap.size ≠ m := by omega
      have hb2 : b < w2.heap.size := by omega
      clear b2
      go_wp2_with fail
      clear c0 c1 c2 c3 c4
      go_loopw [31, 2] (fun vi vu wr => WalkRel see Inv Good m w2.heap.size w a.box t d u R vi vu wr) (fun vi _ _ => t.ts.length - (intOf vi).toNat)
      case atStart => exact ⟨0, st1, u, rfl, rfl, by omega, Or.inl rfl, HR.out, hG2.out, HI2.out, HR2.out, HAX0.out⟩
      case round =>
        clear HI2 HR2 HAX0 hG2
        obtain ⟨k, st', u', rfl, rfl, hk, hu', hGk, hgood', hI', hR', hAX⟩ := hrel
        have HGk := Lib.hid hGk
        have HI' := Lib.hid hI'
        have HR' := Lib.hid hR'
        have HAX := Lib.hid hAX
        have HUP := Lib.hid hu'
        obtain ⟨a0, a1, a2, a3, a4, a5⟩ := Kd.cells hAX
        have hszr := hR'.size
        have hbel := hR'.below HS.out.low hB
        obtain ⟨c0, c1, c2, c3, c4⟩ := HB0.out.ran HR'.out hb hbm
        clear hGk hI' hR' hAX hu'
        by_cases hlt : k < t.ts.length
        · have hbv0 := one_cell (HR'.out.keep HBV.out hv)
          have z1 : Bv < wr.heap.size := World.block_lt_of_cell? wr _ hbv0
          have z2 : b < wr.heap.size := by omega
          have z3 : b ≠ m := hbm
          obtain ⟨b', off', hao, hat'⟩ := (Tm.In.below hbel _ _ HIN.out).kid k hlt
          rw [hao] at c4
          have HAT' := Lib.hid hat'
          clear hao hat' hbel
          cases hbb : a.binds
          · have hun : under t.k k u' = u' := by unfold under; rw [if_neg]; rw [← HBD.out, hbb]; simp
            have HU : Hid (u' = u ∨ (u' = u + 1 ∧ kids t.k - 1 < ((k + 1 : Nat) : Int))) := Lib.hid (by have := HUP.out; omega)
            rw [hbb] at a5
            have hup := HUP.out
            have HBB := Lib.hid hbb
            clear hbb
            have hu2 : 0 ≤ u' ∧ u' ≤ d + 1 := by omega
            clear hup
            obtain ⟨T2, hT2⟩ : ∃ T2, T2 = t.ts[k].walk see st' (d + 1) (u') := ⟨_, rfl⟩
            have HW : Hid ((if T2.2 = true then walkL see t.k (t.ts.drop (k + 1)) (k + 1) T2.1 (d + 1) (u') else (T2.1, false)) = R) := Lib.hid (by
              have h0 := HGk.out
              rw [drop_get hlt, walkL, hun, ← hT2] at h0
              exact h0)
            have HGD : Hid (T2.2 = true → Good T2.1) := Lib.hid (fun hh => by
              rw [hT2] at hh ⊢
              exact walk_good HS.out _ _ _ _ hgood' (HD.out (by trivial) _ (List.getElem_mem hlt)) hh)
            have HZ : Hid (∀ W, Below wr.heap.size wr W → Calls Tryz.prog 173 #[.pointer (some ⟨b', off' + k * 5, none⟩), .int .i64 (d + 1), .int .i64 (u'), .pointer (some ⟨Bs, 0, none⟩), .pointer (some ⟨Bv, 0, none⟩)] W fun e w' => e = .returned (.bool T2.2) ∧ Inv T2.1 w' ∧ Ran m W w') := Lib.hid (fun W hW => by
              rw [hT2]
              exact HIH.out _ (List.getElem_mem hlt) st' b' (off' + k * 5) (d + 1) (u') W hgood' (HS.out.keep _ _ _ HI'.out hW) (HD.out (by trivial) _ (List.getElem_mem hlt)) hu2.1 hu2.2 ((HAT'.out.below (hW.mono (by have := HR'.out.size; omega))).root HS.out.low (by have := HR'.out.size; have := hW.size; omega)) (by have := HR'.out.size; have := hW.size; omega) (by have := HR'.out.size; have := hW.size; omega) (Lvl.keep hW (HR'.out.keep HBS.out hs)) (Lvl.keep hW (HR'.out.keep HBV.out hv)))
            obtain ⟨st2, r2⟩ := T2
            dsimp only at HW HGD HZ
            clear hT2 hun
            cases r2
            · have HW1 : Hid ((st2, false) = R) := Lib.hid (by have h0 := HW.out; simpa using h0)
              clear HW HGD
              go_wp2_with fail
              have hwr : IntKind.i64.wrap (d + 1) = d + 1 := IntWalk.i64_in _ (by omega)
              go_region_held3 (fun w' => w'.cell? ⟨Bv, 0, none⟩ = some (.func (.func 173) #[] #[.pointer (some ⟨Bs, 0, none⟩), .pointer (some ⟨Bv, 0, none⟩)]) ∧ w'.cell? ⟨b, o + 4, none⟩ = some (.slice (some ⟨b', off', none⟩) t.ts.length h.tc))
                (go_keep)
                ((go_at_call 173; (with_reducible refine (HZ.out _ ?_).mono ?_); exact (Below.refl _ _).drew; rintro e w3 ⟨rfl, i3, g3⟩; have q1 := (g3.cell (p := ⟨Bv, 0, none⟩) z1 hv).trans hbv0; have q2 := (g3.cell (p := ⟨b, o + 4, none⟩) z2 z3).trans c4))
              have HI3 := Lib.hid i3
              have HR3 := Lib.hid (HR'.out.trans ((Ran.of_below (Below.refl _ _).drew).trans g3))
              clear i3 g3 q1 q2 hwr
              go_wp2_with fail
              go_ret
              exact walk_fin HW1.out HI3.out HR3.out
            · have HW1 : Hid (walkL see t.k (t.ts.drop (k + 1)) (k + 1) st2 (d + 1) (u') = R) := Lib.hid (by have h0 := HW.out; simpa using h0)
              have HG2 := Lib.hid (HGD.out rfl)
              clear HW HGD
              go_wp2_with fail
              have hwr : IntKind.i64.wrap (d + 1) = d + 1 := IntWalk.i64_in _ (by omega)
              go_region_held3 (fun w' => w'.cell? ⟨Bv, 0, none⟩ = some (.func (.func 173) #[] #[.pointer (some ⟨Bs, 0, none⟩), .pointer (some ⟨Bv, 0, none⟩)]) ∧ w'.cell? ⟨b, o + 4, none⟩ = some (.slice (some ⟨b', off', none⟩) t.ts.length h.tc))
                (go_keep)
                ((go_at_call 173; (with_reducible refine (HZ.out _ ?_).mono ?_); exact (Below.refl _ _).drew; rintro e w3 ⟨rfl, i3, g3⟩; have q1 := (g3.cell (p := ⟨Bv, 0, none⟩) z1 hv).trans hbv0; have q2 := (g3.cell (p := ⟨b, o + 4, none⟩) z2 z3).trans c4))
              have HI3 := Lib.hid i3
              have HR3 := Lib.hid (HR'.out.trans ((Ran.of_below (Below.refl _ _).drew).trans g3))
              have HA3 := Lib.hid (((Ran.of_below (Below.refl _ _).drew).trans g3).keep HAX.out hAm)
              clear i3 g3 q1 q2 hwr
              go_wp2_with fail
              go_roundw
              case rel => exact ⟨k + 1, st2, u', by go_num, rfl, by omega, HU.out, HW1.out, HG2.out, HI3.out, HR3.out, HA3.out⟩
              case measure => simp [intOf]; omega
          · have hbt : binds t.k = true := by rw [← HBD.out, hbb]
            have htm : a.terms = kids t.k := HTR.out hbt
            rw [hbb] at a5
            have HBB := Lib.hid hbb
            clear hbb
            by_cases hlast : (k : Int) = a.terms - 1
            · have hun : under t.k k u' = u' + 1 := by unfold under; rw [if_pos ⟨hbt, by omega⟩]
              have hup : u' = u := by have := HUP.out; omega
              have HU : Hid (u' + 1 = u ∨ (u' + 1 = u + 1 ∧ kids t.k - 1 < ((k + 1 : Nat) : Int))) := Lib.hid (by omega)
              have hq : ((k : Int) == a.terms - 1) = true := by simpa using hlast
              have hu2 : 0 ≤ u' + 1 ∧ u' + 1 ≤ d + 1 := by omega
              clear hup hlast htm hbt
              obtain ⟨T2, hT2⟩ : ∃ T2, T2 = t.ts[k].walk see st' (d + 1) (u' + 1) := ⟨_, rfl⟩
              have HW : Hid ((if T2.2 = true then walkL see t.k (t.ts.drop (k + 1)) (k + 1) T2.1 (d + 1) (u' + 1) else (T2.1, false)) = R) := Lib.hid (by
                have h0 := HGk.out
                rw [drop_get hlt, walkL, hun, ← hT2] at h0
                exact h0)
              have HGD : Hid (T2.2 = true → Good T2.1) := Lib.hid (fun hh => by
                rw [hT2] at hh ⊢
                exact walk_good HS.out _ _ _ _ hgood' (HD.out (by trivial) _ (List.getElem_mem hlt)) hh)
              have HZ : Hid (∀ W, Below wr.heap.size wr W → Calls Tryz.prog 173 #[.pointer (some ⟨b', off' + k * 5, none⟩), .int .i64 (d + 1), .int .i64 (u' + 1), .pointer (some ⟨Bs, 0, none⟩), .pointer (some ⟨Bv, 0, none⟩)] W fun e w' => e = .returned (.bool T2.2) ∧ Inv T2.1 w' ∧ Ran m W w') := Lib.hid (fun W hW => by
                rw [hT2]
                exact HIH.out _ (List.getElem_mem hlt) st' b' (off' + k * 5) (d + 1) (u' + 1) W hgood' (HS.out.keep _ _ _ HI'.out hW) (HD.out (by trivial) _ (List.getElem_mem hlt)) hu2.1 hu2.2 ((HAT'.out.below (hW.mono (by have := HR'.out.size; omega))).root HS.out.low (by have := HR'.out.size; have := hW.size; omega)) (by have := HR'.out.size; have := hW.size; omega) (by have := HR'.out.size; have := hW.size; omega) (Lvl.keep hW (HR'.out.keep HBS.out hs)) (Lvl.keep hW (HR'.out.keep HBV.out hv)))
              obtain ⟨st2, r2⟩ := T2
              dsimp only at HW HGD HZ
              clear hT2 hun
              cases r2
              · have HW1 : Hid ((st2, false) = R) := Lib.hid (by have h0 := HW.out; simpa using h0)
                clear HW HGD
                go_wp2_with fail
                have hwr : IntKind.i64.wrap (d + 1) = d + 1 := IntWalk.i64_in _ (by omega)
                go_region_held3 (fun w' => w'.cell? ⟨Bv, 0, none⟩ = some (.func (.func 173) #[] #[.pointer (some ⟨Bs, 0, none⟩), .pointer (some ⟨Bv, 0, none⟩)]) ∧ w'.cell? ⟨b, o + 4, none⟩ = some (.slice (some ⟨b', off', none⟩) t.ts.length h.tc))
                  (go_keep)
                  ((go_at_call 173; (with_reducible refine (HZ.out _ ?_).mono ?_); exact (Below.refl _ _).drew; rintro e w3 ⟨rfl, i3, g3⟩; have q1 := (g3.cell (p := ⟨Bv, 0, none⟩) z1 hv).trans hbv0; have q2 := (g3.cell (p := ⟨b, o + 4, none⟩) z2 z3).trans c4))
                have HI3 := Lib.hid i3
                have HR3 := Lib.hid (HR'.out.trans ((Ran.of_below (Below.refl _ _).drew).trans g3))
                clear i3 g3 q1 q2 hwr
                go_wp2_with fail
                go_ret
                exact walk_fin HW1.out HI3.out HR3.out
              · have HW1 : Hid (walkL see t.k (t.ts.drop (k + 1)) (k + 1) st2 (d + 1) (u' + 1) = R) := Lib.hid (by have h0 := HW.out; simpa using h0)
                have HG2 := Lib.hid (HGD.out rfl)
                clear HW HGD
                go_wp2_with fail
                have hwr : IntKind.i64.wrap (d + 1) = d + 1 := IntWalk.i64_in _ (by omega)
                go_region_held3 (fun w' => w'.cell? ⟨Bv, 0, none⟩ = some (.func (.func 173) #[] #[.pointer (some ⟨Bs, 0, none⟩), .pointer (some ⟨Bv, 0, none⟩)]) ∧ w'.cell? ⟨b, o + 4, none⟩ = some (.slice (some ⟨b', off', none⟩) t.ts.length h.tc))
                  (go_keep)
                  ((go_at_call 173; (with_reducible refine (HZ.out _ ?_).mono ?_); exact (Below.refl _ _).drew; rintro e w3 ⟨rfl, i3, g3⟩; have q1 := (g3.cell (p := ⟨Bv, 0, none⟩) z1 hv).trans hbv0; have q2 := (g3.cell (p := ⟨b, o + 4, none⟩) z2 z3).trans c4))
                have HI3 := Lib.hid i3
                have HR3 := Lib.hid (HR'.out.trans ((Ran.of_below (Below.refl _ _).drew).trans g3))
                have HA3 := Lib.hid (((Ran.of_below (Below.refl _ _).drew).trans g3).keep HAX.out hAm)
                clear i3 g3 q1 q2 hwr
                go_wp2_with fail
                go_roundw
                case rel => exact ⟨k + 1, st2, u' + 1, by go_num, rfl, by omega, HU.out, HW1.out, HG2.out, HI3.out, HR3.out, HA3.out⟩
                case measure => simp [intOf]; omega
            · have hun : under t.k k u' = u' := by unfold under; rw [if_neg]; rintro ⟨_, h2⟩; omega
              have HU : Hid (u' = u ∨ (u' = u + 1 ∧ kids t.k - 1 < ((k + 1 : Nat) : Int))) := Lib.hid (by have := HUP.out; omega)
              have hup := HUP.out
              have hq : ((k : Int) == a.terms - 1) = false := by simpa using hlast
              have hu2 : 0 ≤ u' ∧ u' ≤ d + 1 := by omega
              clear hup hlast htm hbt
              obtain ⟨T2, hT2⟩ : ∃ T2, T2 = t.ts[k].walk see st' (d + 1) (u') := ⟨_, rfl⟩
              have HW : Hid ((if T2.2 = true then walkL see t.k (t.ts.drop (k + 1)) (k + 1) T2.1 (d + 1) (u') else (T2.1, false)) = R) := Lib.hid (by
                have h0 := HGk.out
                rw [drop_get hlt, walkL, hun, ← hT2] at h0
                exact h0)
              have HGD : Hid (T2.2 = true → Good T2.1) := Lib.hid (fun hh => by
                rw [hT2] at hh ⊢
                exact walk_good HS.out _ _ _ _ hgood' (HD.out (by trivial) _ (List.getElem_mem hlt)) hh)
              have HZ : Hid (∀ W, Below wr.heap.size wr W → Calls Tryz.prog 173 #[.pointer (some ⟨b', off' + k * 5, none⟩), .int .i64 (d + 1), .int .i64 (u'), .pointer (some ⟨Bs, 0, none⟩), .pointer (some ⟨Bv, 0, none⟩)] W fun e w' => e = .returned (.bool T2.2) ∧ Inv T2.1 w' ∧ Ran m W w') := Lib.hid (fun W hW => by
                rw [hT2]
                exact HIH.out _ (List.getElem_mem hlt) st' b' (off' + k * 5) (d + 1) (u') W hgood' (HS.out.keep _ _ _ HI'.out hW) (HD.out (by trivial) _ (List.getElem_mem hlt)) hu2.1 hu2.2 ((HAT'.out.below (hW.mono (by have := HR'.out.size; omega))).root HS.out.low (by have := HR'.out.size; have := hW.size; omega)) (by have := HR'.out.size; have := hW.size; omega) (by have := HR'.out.size; have := hW.size; omega) (Lvl.keep hW (HR'.out.keep HBS.out hs)) (Lvl.keep hW (HR'.out.keep HBV.out hv)))
              obtain ⟨st2, r2⟩ := T2
              dsimp only at HW HGD HZ
              clear hT2 hun
              cases r2
              · have HW1 : Hid ((st2, false) = R) := Lib.hid (by have h0 := HW.out; simpa using h0)
                clear HW HGD
                go_wp2_with fail
                have hwr : IntKind.i64.wrap (d + 1) = d + 1 := IntWalk.i64_in _ (by omega)
                go_region_held3 (fun w' => w'.cell? ⟨Bv, 0, none⟩ = some (.func (.func 173) #[] #[.pointer (some ⟨Bs, 0, none⟩), .pointer (some ⟨Bv, 0, none⟩)]) ∧ w'.cell? ⟨b, o + 4, none⟩ = some (.slice (some ⟨b', off', none⟩) t.ts.length h.tc))
                  (go_keep)
                  ((go_at_call 173; (with_reducible refine (HZ.out _ ?_).mono ?_); exact (Below.refl _ _).drew; rintro e w3 ⟨rfl, i3, g3⟩; have q1 := (g3.cell (p := ⟨Bv, 0, none⟩) z1 hv).trans hbv0; have q2 := (g3.cell (p := ⟨b, o + 4, none⟩) z2 z3).trans c4))
                have HI3 := Lib.hid i3
                have HR3 := Lib.hid (HR'.out.trans ((Ran.of_below (Below.refl _ _).drew).trans g3))
                clear i3 g3 q1 q2 hwr
                go_wp2_with fail
                go_ret
                exact walk_fin HW1.out HI3.out HR3.out
              · have HW1 : Hid (walkL see t.k (t.ts.drop (k + 1)) (k + 1) st2 (d + 1) (u') = R) := Lib.hid (by have h0 := HW.out; simpa using h0)
                have HG2 := Lib.hid (HGD.out rfl)
                clear HW HGD
                go_wp2_with fail
                have hwr : IntKind.i64.wrap (d + 1) = d + 1 := IntWalk.i64_in _ (by omega)
                go_region_held3 (fun w' => w'.cell? ⟨Bv, 0, none⟩ = some (.func (.func 173) #[] #[.pointer (some ⟨Bs, 0, none⟩), .pointer (some ⟨Bv, 0, none⟩)]) ∧ w'.cell? ⟨b, o + 4, none⟩ = some (.slice (some ⟨b', off', none⟩) t.ts.length h.tc))
                  (go_keep)
                  ((go_at_call 173; (with_reducible refine (HZ.out _ ?_).mono ?_); exact (Below.refl _ _).drew; rintro e w3 ⟨rfl, i3, g3⟩; have q1 := (g3.cell (p := ⟨Bv, 0, none⟩) z1 hv).trans hbv0; have q2 := (g3.cell (p := ⟨b, o + 4, none⟩) z2 z3).trans c4))
                have HI3 := Lib.hid i3
                have HR3 := Lib.hid (HR'.out.trans ((Ran.of_below (Below.refl _ _).drew).trans g3))
                have HA3 := Lib.hid (((Ran.of_below (Below.refl _ _).drew).trans g3).keep HAX.out hAm)
                clear i3 g3 q1 q2 hwr
                go_wp2_with fail
                go_roundw
                case rel => exact ⟨k + 1, st2, u', by go_num, rfl, by omega, HU.out, HW1.out, HG2.out, HI3.out, HR3.out, HA3.out⟩
                case measure => simp [intOf]; omega
        · have HE : Hid ((st', true) = R) := Lib.hid (by
            have h0 := HGk.out
            rw [List.drop_eq_nil_of_le (by omega), walkL] at h0
            exact h0)
          go_wp2_with fail
          go_ret
          exact walk_fin HE.out HI'.out HR'.out
end Go.Proofs.YtiekbhlnnmnklaaGreat



namespace Go.Proofs.YtiekbhlnnmnklaaGreat
open Go.RowKit Go.Shelf Lvl Trm

/-- A term lies there whatever is written into block m. -/
def Trm.Firm (m : Nat) (w : World) (t : Tm) (h : Hd) : Prop := ∀ w', Ran m w w' → t.In w'.heap.size w' h
theorem Trm.Firm.here {m : Nat} {w : World} {t : Tm} {h : Hd} (g : Firm m w t h) : t.In w.heap.size w h := g w (Ran.refl _ _)
theorem Trm.Firm.step {m : Nat} {w w1 : World} {t : Tm} {h : Hd} (g : Firm m w t h) (r : Ran m w w1) : Firm m w1 t h := fun w' hr => g w' (r.trans hr)
theorem Trm.Firm.of {m B : Nat} {w : World} {t : Tm} {h : Hd} (g : t.In B w h) (hm : B ≤ m) (hB : B ≤ w.heap.size) : Firm m w t h := fun w' hr => Tm.In.mono (by have := hr.size; omega) _ _ (Tm.In.below (hr.below hm hB) _ _ g)
def Trm.no : ByteArray := ⟨#[]⟩
def Trm.tS : Tm := .mk 1 0 no [number 0] []
def Trm.tV (n : Int) : Tm := .mk 2 n no [] []
def Trm.tC (s : ByteArray) : Tm := .mk 3 0 s [] []
/-- A kind of two terms: App, Lam, Pi. -/
def Trm.t2 (k : Int) (f x : Tm) : Tm := .mk k 0 no [] [f, x]

theorem Trm.five_cells {w : World} {b : Nat} {v0 v1 v2 v3 v4 : Value} {ty : TypeId} {fr : Nat × Nat} (h : w.heap[b]? = some (.cells #[v0, v1, v2, v3, v4] ty fr)) :
    w.cell? ⟨b, 0, none⟩ = some v0 ∧ w.cell? ⟨b, 1, none⟩ = some v1 ∧ w.cell? ⟨b, 2, none⟩ = some v2 ∧ w.cell? ⟨b, 3, none⟩ = some v3 ∧ w.cell? ⟨b, 4, none⟩ = some v4 := by
  refine ⟨?_, ?_, ?_, ?_, ?_⟩ <;> (simp [World.cell?, h])
theorem Trm.five_free {w : World} {b : Nat} {v0 v1 v2 v3 v4 : Value} {ty : TypeId} (h : w.heap[b]? = some (.cells #[v0, v1, v2, v3, v4] ty)) :
    w.frozen? ⟨b, 0, none⟩ = false ∧ w.frozen? ⟨b, 1, none⟩ = false ∧ w.frozen? ⟨b, 2, none⟩ = false ∧ w.frozen? ⟨b, 3, none⟩ = false ∧ w.frozen? ⟨b, 4, none⟩ = false := by
  refine ⟨?_, ?_, ?_, ?_, ?_⟩ <;> (simp [World.frozen?, h])
/-- Five stores into the first cells of a block. -/
def Trm.putT (w : World) (b : Nat) (v0 v1 v2 v3 v4 : Value) : World := ((((w.setCell ⟨b, 0, none⟩ v0).setCell ⟨b, 1, none⟩ v1).setCell ⟨b, 2, none⟩ v2).setCell ⟨b, 3, none⟩ v3).setCell ⟨b, 4, none⟩ v4
theorem Trm.putT_self {w : World} {b : Nat} {u0 u1 u2 u3 u4 : Value} {ty : TypeId} {fr : Nat × Nat} (h : w.heap[b]? = some (.cells #[u0, u1, u2, u3, u4] ty fr)) (v0 v1 v2 v3 v4 : Value) : (putT w b v0 v1 v2 v3 v4).heap[b]? = some (.cells #[v0, v1, v2, v3, v4] ty fr) := by
  simp [putT, World.setCell, Array.getElem?_modify, h]
theorem Trm.putT_below {w W : World} (h : Below w.heap.size w W) {B : Nat} (hB : w.heap.size ≤ B) (v0 v1 v2 v3 v4 : Value) : Below w.heap.size w (putT W B v0 v1 v2 v3 v4) := below_all h hB _ _ _ _ _
theorem Trm.putT_size (w : World) (b : Nat) (v0 v1 v2 v3 v4 : Value) : (putT w b v0 v1 v2 v3 v4).heap.size = w.heap.size := by simp [putT, World.setCell]

theorem Trm.t2_in {B : Nat} {w : World} {k : Int} {f x : Tm} {hf hx : Hd} {g : Nat} {ty : TypeId} {fr : Nat × Nat} (hk0 : 0 ≤ k) (hk1 : k ≤ 255) (hg : w.heap[g]? = some (.cells (f.vals hf ++ x.vals hx) ty fr)) (hB : g < B) (h1 : f.In B w hf) (h2 : x.In B w hx) :
    (t2 k f x).In B w ⟨none, 0, some ⟨g, 0, none⟩, 2⟩ := by
  refine Tm.In_iff.2 ⟨⟨hk0, hk1, by simp [t2, Tm.n], by simp [t2, Tm.n], by simp [t2, Tm.s, no, ByteArray.size], by simp [t2, Tm.ls], by simp [t2, Tm.ts]⟩, ⟨fun k hk => by simp [t2, Tm.ls] at hk⟩, fun hn => by simp [t2, Tm.ls] at hn, ?_⟩
  refine RowIn.mk fun i hi => ?_
  have hi2 : i = 0 ∨ i = 1 := by simp [t2, Tm.ts] at hi; omega
  rcases hi2 with rfl | rfl
  · refine ⟨g, 0, rfl, hB, hf, ⟨?_, ?_, ?_, ?_, ?_⟩, h1⟩ <;> (simp [World.cell?, hg, Tm.vals, t2, Tm.ts])
  · refine ⟨g, 0, rfl, hB, hx, ⟨?_, ?_, ?_, ?_, ?_⟩, h2⟩ <;> (simp [World.cell?, hg, Tm.vals, t2, Tm.ts])
theorem Trm.leaf_in {B : Nat} {w : World} {k n : Int} {s : ByteArray} {lc tc : Nat} (hk0 : 0 ≤ k) (hk1 : k ≤ 255) (hn0 : -9223372036854775808 ≤ n) (hn1 : n ≤ 9223372036854775807) (hs : s.size ≤ 9223372036854775807) : (Tm.mk k n s [] []).In B w ⟨none, lc, none, tc⟩ :=
  Tm.In_iff.2 ⟨⟨hk0, hk1, hn0, hn1, hs, by simp [Tm.ls], by simp [Tm.ts]⟩, ⟨fun k hk => by simp [Tm.ls] at hk⟩, fun hn => by simp [Tm.ls] at hn, RowIn.mk fun i hi => by simp [Tm.ts] at hi⟩

theorem RefZero_any (w : World) : Calls Tryz.prog 60 #[] w fun e w' => e = .returned (number 0).val ∧ Below w.heap.size w w' := by
  unfold number Lv.val
  go_enter Tryz.func60, Tryz.ntmps60
  go_wp2_with fail
  exact bodyPost_ret (v := .agg #[.int .i64 0, .int .i64 (-1), .int .i64 (-1), .int .i64 (-1), .int .i64 (-1)]) (by simp [results, Tryz.results60, go_sem]) rfl ⟨rfl, below_one _ _⟩

theorem Trm.tS_in {B : Nat} {w : World} {g : Nat} {fr : Nat × Nat} {ty : TypeId} (hg : w.heap[g]? = some (.cells #[.int .i64 0, .int .i64 (-1), .int .i64 (-1), .int .i64 (-1), .int .i64 (-1)] ty fr)) (hB : g < B) :
    tS.In B w ⟨some ⟨g, 0, none⟩, 1, none, 0⟩ := by
  refine Tm.In_iff.2 ⟨⟨by simp [tS, Tm.k], by simp [tS, Tm.k], by simp [tS, Tm.n], by simp [tS, Tm.n], by simp [tS, Tm.s, no, ByteArray.size], by simp [tS, Tm.ls], by simp [tS, Tm.ts]⟩, ⟨fun k hk => ?_⟩, fun _ a ha => by cases ha; exact hB, RowIn.mk fun i hi => by simp [tS, Tm.ts] at hi⟩
  have hk0 : k = 0 := by simp [tS, Tm.ls] at hk; omega
  subst hk0
  refine ⟨g, 0, rfl, ?_, ?_, ?_, ?_, ?_⟩ <;> (simp [World.cell?, hg, tS, Tm.ls, number])

end Go.Proofs.YtiekbhlnnmnklaaGreat



namespace Go.Proofs.YtiekbhlnnmnklaaGreat
open Go.RowKit Go.Shelf Lvl Trm

theorem Trm.RowIn.below {B : Nat} {w w1 : World} {ao : Option Addr} {ts : List Tm} (h : RowIn B w ao 0 ts) (g : Below B w w1) : RowIn B w1 ao 0 ts :=
  RowIn.mk fun k hk => by
    obtain ⟨b, off, hao, hat⟩ := h.place k hk
    exact ⟨b, off, hao, hat.below g⟩
theorem Trm.RowIn.mono {B B' : Nat} {w : World} {ao : Option Addr} {ts : List Tm} (h : RowIn B w ao 0 ts) (hB : B ≤ B') : RowIn B' w ao 0 ts :=
  RowIn.mk fun k hk => by
    obtain ⟨b, off, hao, hat⟩ := h.place k hk
    exact ⟨b, off, hao, hat.mono hB⟩
theorem Trm.carryRow {w w' : World} {ao : Option Addr} {ts : List Tm} (h : RowIn w.heap.size w ao 0 ts) (b : Below w.heap.size w w') : RowIn w'.heap.size w' ao 0 ts := (h.below b).mono b.size

/-- w' is w with new blocks, and perhaps other things in the blocks of P. -/
structure Trm.RanS (P : Nat → Prop) (w w' : World) : Prop where
  os : w'.os = w.os
  tape : w'.tape = w.tape
  output : w'.output = w.output
  size : w.heap.size ≤ w'.heap.size
  block : ∀ k, k < w.heap.size → ¬ P k → w'.heap[k]? = w.heap[k]?
theorem Trm.RanS.refl (P : Nat → Prop) (w : World) : RanS P w w := ⟨rfl, rfl, rfl, Nat.le_refl _, fun _ _ _ => rfl⟩
theorem Trm.RanS.trans {P : Nat → Prop} {a b c : World} (h : RanS P a b) (k : RanS P b c) : RanS P a c :=
  ⟨k.os.trans h.os, k.tape.trans h.tape, k.output.trans h.output, Nat.le_trans h.size k.size, fun i hi hm => (k.block i (Nat.lt_of_lt_of_le hi h.size) hm).trans (h.block i hi hm)⟩
theorem Trm.RanS.of_below {P : Nat → Prop} {w w' : World} (h : Below w.heap.size w w') : RanS P w w' := ⟨h.os, h.tape, h.output, h.size, fun k hk _ => h.block k hk⟩
theorem Trm.RanS.of_ran {P : Nat → Prop} {m : Nat} {w w' : World} (h : Ran m w w') (hm : P m) : RanS P w w' := ⟨h.os, h.tape, h.output, h.size, fun k hk hn => h.block k hk (fun e => hn (e ▸ hm))⟩
theorem Trm.RanS.below {P : Nat → Prop} {B : Nat} {w w' : World} (h : RanS P w w') (hm : ∀ k, P k → B ≤ k) (hB : B ≤ w.heap.size) : Below B w w' :=
  ⟨h.os, h.tape, h.output, h.size, fun k hk => h.block k (by omega) (fun hp => by have := hm k hp; omega)⟩
theorem Trm.RanS.keep {P : Nat → Prop} {w w' : World} (h : RanS P w w') {k : Nat} {o : Obj} (hk : w.heap[k]? = some o) (hm : ¬ P k) : w'.heap[k]? = some o := by
  rw [h.block k (Array.getElem?_eq_some_iff.1 hk).1 hm]; exact hk
/-- A term lies there whatever is written into the blocks of P. -/
def Trm.FirmS (P : Nat → Prop) (w : World) (t : Tm) (h : Hd) : Prop := ∀ w', RanS P w w' → t.In w'.heap.size w' h
theorem Trm.FirmS.here {P : Nat → Prop} {w : World} {t : Tm} {h : Hd} (g : FirmS P w t h) : t.In w.heap.size w h := g w (RanS.refl _ _)
theorem Trm.FirmS.step {P : Nat → Prop} {w w1 : World} {t : Tm} {h : Hd} (g : FirmS P w t h) (r : RanS P w w1) : FirmS P w1 t h := fun w' hr => g w' (r.trans hr)
theorem Trm.FirmS.of {P : Nat → Prop} {B : Nat} {w : World} {t : Tm} {h : Hd} (g : t.In B w h) (hm : ∀ k, P k → B ≤ k) (hB : B ≤ w.heap.size) : FirmS P w t h := fun w' hr => Tm.In.mono (by have := hr.size; omega) _ _ (Tm.In.below (hr.below hm hB) _ _ g)
/-- Two terms, applied: in a new row g. -/
theorem Trm.FirmS.t2 {P : Nat → Prop} {w : World} {k : Int} {f x : Tm} {hf hx : Hd} {g : Nat} {ty : TypeId} {fr : Nat × Nat} (hk0 : 0 ≤ k) (hk1 : k ≤ 255) (hg : w.heap[g]? = some (.cells (f.vals hf ++ x.vals hx) ty fr)) (hn : ¬ P g) (h1 : FirmS P w f hf) (h2 : FirmS P w x hx) :
    FirmS P w (t2 k f x) ⟨none, 0, some ⟨g, 0, none⟩, 2⟩ := fun w' hr => t2_in hk0 hk1 (hr.keep hg hn) (by have := (Array.getElem?_eq_some_iff.1 hg).1; have := hr.size; omega) (h1 w' hr) (h2 w' hr)

end Go.Proofs.YtiekbhlnnmnklaaGreat



namespace Go.Proofs.YtiekbhlnnmnklaaGreat
open Go.RowKit Go.Shelf Lvl Trm

namespace Env
structure Rl where
  ctor : ByteArray
  fields : Int
  body : Tm
structure Inf where
  kind : Int
  name : ByteArray
  params : Int
  ty : Tm
  va : Tm
  height : Int
  block : ByteArray
  of_ : ByteArray
  fixed : Int
  index : Int
  no : Int
  fields : Int
  motives : Int
  minors : Int
  rules : List Rl
  ctors : Int
  record : Bool
/-- Where its slices lie. -/
structure IHd where
  ty : Hd
  va : Hd
  ro : Option Addr
  rc : Nat
def five (t : Tm) (h : Hd) : List Value := [.int .u8 t.k, .int .i64 t.n, .string t.s, .slice h.lo t.ls.length h.lc, .slice h.to t.ts.length h.tc]
theorem five_vals (t : Tm) (h : Hd) : (five t h).toArray = t.vals h := rfl
def Rl.vals (r : Rl) (h : Hd) : List Value := [.string r.ctor, .int .i64 r.fields] ++ five r.body h
def Inf.vals (x : Inf) (h : IHd) : List Value :=
  [.int .u8 x.kind, .string x.name, .int .i64 x.params] ++ five x.ty h.ty ++ five x.va h.va ++ [.int .i64 x.height, .string x.block, .string x.of_, .int .i64 x.fixed, .int .i64 x.index, .int .i64 x.no, .int .i64 x.fields, .int .i64 x.motives, .int .i64 x.minors, .slice h.ro x.rules.length h.rc, .int .i64 x.ctors, .bool x.record]
theorem Rl.len (r : Rl) (h : Hd) : (r.vals h).length = 7 := rfl
theorem Inf.len (x : Inf) (h : IHd) : (x.vals h).length = 25 := rfl
/-- Its kind and names are such as these fields hold. -/
structure Inf.Fit (x : Inf) : Prop where
  k0 : 0 ≤ x.kind
  k1 : x.kind ≤ 255
  name : x.name.size ≤ 9223372036854775807
  rules : x.rules.length ≤ 9223372036854775807
structure RRow (B : Nat) (w : World) (ro : Option Addr) (rs : List Rl) : Prop where
  place : ∀ k (hk : k < rs.length), ∃ b off hd, ro = some ⟨b, off, none⟩ ∧ b < B ∧ w.rangeAt b (off + k * 7) (rs[k].vals hd) ∧ rs[k].body.In B w hd
/-- An info with these slices lies in w, below block B. -/
structure Inf.In (B : Nat) (w : World) (x : Inf) (h : IHd) : Prop where
  fit : x.Fit
  ty : x.ty.In B w h.ty
  va : x.va.In B w h.va
  rules : RRow B w h.ro x.rules
structure InfRow (B : Nat) (w : World) (lo : Option Addr) (l : List Inf) : Prop where
  place : ∀ k (hk : k < l.length), ∃ b off hd, lo = some ⟨b, off, none⟩ ∧ b < B ∧ w.rangeAt b (off + k * 25) (l[k].vals hd) ∧ l[k].In B w hd
theorem range_below {B : Nat} {w w' : World} {b o : Nat} {cs : List Value} (h : w.rangeAt b o cs) (g : Below B w w') (hb : b < B) : w'.rangeAt b o cs := fun j v hv => (g.cell (p := ⟨b, o + j, none⟩) hb).trans (h j v hv)
theorem RRow.below {B : Nat} {w w' : World} {ro : Option Addr} {rs : List Rl} (h : RRow B w ro rs) (g : Below B w w') : RRow B w' ro rs :=
  ⟨fun k hk => by
    obtain ⟨b, off, hd, h1, h2, h3, h4⟩ := h.place k hk
    exact ⟨b, off, hd, h1, h2, range_below h3 g h2, Tm.In.below g _ _ h4⟩⟩
theorem RRow.mono {B B' : Nat} {w : World} {ro : Option Addr} {rs : List Rl} (h : RRow B w ro rs) (hB : B ≤ B') : RRow B' w ro rs :=
  ⟨fun k hk => by
    obtain ⟨b, off, hd, h1, h2, h3, h4⟩ := h.place k hk
    exact ⟨b, off, hd, h1, by omega, h3, Tm.In.mono hB _ _ h4⟩⟩
theorem Inf.In.below {B : Nat} {w w' : World} {x : Inf} {h : IHd} (i : x.In B w h) (g : Below B w w') : x.In B w' h := ⟨i.fit, Tm.In.below g _ _ i.ty, Tm.In.below g _ _ i.va, i.rules.below g⟩
theorem Inf.In.mono {B B' : Nat} {w : World} {x : Inf} {h : IHd} (i : x.In B w h) (hB : B ≤ B') : x.In B' w h := ⟨i.fit, Tm.In.mono hB _ _ i.ty, Tm.In.mono hB _ _ i.va, i.rules.mono hB⟩
theorem Inf.carry {w w' : World} {x : Inf} {h : IHd} (i : x.In w.heap.size w h) (g : Below w.heap.size w w') : x.In w'.heap.size w' h := (i.below g).mono g.size
theorem InfRow.below {B : Nat} {w w' : World} {lo : Option Addr} {l : List Inf} (h : InfRow B w lo l) (g : Below B w w') : InfRow B w' lo l :=
  ⟨fun k hk => by
    obtain ⟨b, off, hd, h1, h2, h3, h4⟩ := h.place k hk
    exact ⟨b, off, hd, h1, h2, range_below h3 g h2, h4.below g⟩⟩
theorem InfRow.mono {B B' : Nat} {w : World} {lo : Option Addr} {l : List Inf} (h : InfRow B w lo l) (hB : B ≤ B') : InfRow B' w lo l :=
  ⟨fun k hk => by
    obtain ⟨b, off, hd, h1, h2, h3, h4⟩ := h.place k hk
    exact ⟨b, off, hd, h1, by omega, h3, h4.mono hB⟩⟩
theorem InfRow.carry {w w' : World} {lo : Option Addr} {l : List Inf} (i : InfRow w.heap.size w lo l) (g : Below w.heap.size w w') : InfRow w'.heap.size w' lo l := (i.below g).mono g.size

/-- A block that is an info. -/
def IBox (w : World) (b : Nat) (x : Inf) (h : IHd) : Prop := w.heap[b]? = some (.cells (x.vals h).toArray 46)
theorem IBox.cell {w : World} {b : Nat} {x : Inf} {h : IHd} (i : IBox w b x h) (j : Nat) : w.cell? ⟨b, j, none⟩ = (x.vals h)[j]? := by
  have i2 : w.heap[b]? = some (.cells (x.vals h).toArray 46) := i
  unfold World.cell?
  simp [i2]
theorem IBox.range {w : World} {b : Nat} {x : Inf} {h : IHd} (i : IBox w b x h) : w.rangeAt b 0 (x.vals h) := fun j v hv => by rw [Nat.zero_add, i.cell]; exact hv
theorem IBox.ty {w : World} {b : Nat} {x : Inf} {h : IHd} (i : IBox w b x h) : TCells w b 3 x.ty h.ty := ⟨i.cell 3, i.cell 4, i.cell 5, i.cell 6, i.cell 7⟩
theorem IBox.va {w : World} {b : Nat} {x : Inf} {h : IHd} (i : IBox w b x h) : TCells w b 8 x.va h.va := ⟨i.cell 8, i.cell 9, i.cell 10, i.cell 11, i.cell 12⟩
theorem IBox.keep {w w' : World} {b : Nat} {x : Inf} {h : IHd} (i : IBox w b x h) (g : Below w.heap.size w w') : IBox w' b x h := (g.block b (Array.getElem?_eq_some_iff.1 i).1).trans i
theorem IBox.lt {w : World} {b : Nat} {x : Inf} {h : IHd} (i : IBox w b x h) : b < w.heap.size := (Array.getElem?_eq_some_iff.1 i).1

/-- Is it a definition or a theorem? -/
def Inf.hv (x : Inf) : Bool := decide (x.kind = 2) || decide (x.kind = 3)
def numOk (n : Int) : Bool := !(decide (n < 0) || decide (1000 < n))
/-- All its numbers. -/
def Inf.ns (x : Inf) : List Int := [x.fixed, x.index, x.no, x.fields, x.motives, x.minors, x.ctors] ++ x.rules.map Rl.fields
def Inf.nums (x : Inf) : Bool := x.ns.all numOk
def Inf.isKind (x : Inf) : Bool := decide (1 ≤ x.kind) && decide (x.kind ≤ 6)
/-- The terms that must be closed. -/
def Inf.terms (x : Inf) : List Tm := [x.ty] ++ (if x.hv = true then [x.va] else []) ++ x.rules.map Rl.body
end Env
end Go.Proofs.YtiekbhlnnmnklaaGreat


namespace Go.Proofs.YtiekbhlnnmnklaaGreat
open Go.RowKit Go.Shelf Lvl Trm Env

set_option maxRecDepth 100000 in
theorem isKind_any (k : Int) (w : World) : Calls Tryz.prog 102 #[.int .u8 k] w fun e w' => e = .returned (.bool (decide (1 ≤ k) && decide (k ≤ 6))) ∧ w = w' := by
  by_cases h1 : 1 ≤ k
  · by_cases h2 : k ≤ 6
    · rw [decide_eq_true h1, decide_eq_true h2]
      go_enter Tryz.func102, Tryz.ntmps102
      go_wp2_with fail
      go_ret
      exact ⟨rfl, rfl⟩
    · rw [decide_eq_true h1, decide_eq_false h2]
      have h3 : 6 < k := by omega
      go_enter Tryz.func102, Tryz.ntmps102
      go_wp2_with fail
      go_ret
      exact ⟨rfl, rfl⟩
  · rw [decide_eq_false h1]
    have h3 : k < 1 := by omega
    go_enter Tryz.func102, Tryz.ntmps102
    go_wp2_with fail
    go_ret
    exact ⟨rfl, rfl⟩

set_option maxRecDepth 100000 in
theorem hasValue_any {w : World} {b : Nat} {x : Inf} {h : IHd} (hb : IBox w b x h) : Calls Tryz.prog 105 #[.pointer (some ⟨b, 0, none⟩)] w fun e w' => e = .returned (.bool x.hv) ∧ w = w' := by
  have c0 : w.cell? ⟨b, 0, none⟩ = some (.int .u8 x.kind) := hb.cell 0
  clear hb
  unfold Inf.hv
  by_cases h1 : x.kind = 2
  · rw [decide_eq_true h1]
    rw [h1] at c0
    clear h1
    go_enter Tryz.func105, Tryz.ntmps105
    go_wp2_with fail
    go_ret
    exact ⟨rfl, rfl⟩
  · rw [decide_eq_false h1]
    have h3 : (x.kind == 2) = false := by simpa using h1
    generalize x.kind = kd at *
    by_cases h2 : kd = 3
    · rw [decide_eq_true h2]
      subst h2
      go_enter Tryz.func105, Tryz.ntmps105
      go_wp2_with fail
      go_ret
      exact ⟨rfl, rfl⟩
    · rw [decide_eq_false h2]
      have h4 : (kd == 3) = false := by simpa using h2
      go_enter Tryz.func105, Tryz.ntmps105
      go_wp2_with fail
      go_ret
      exact ⟨rfl, rfl⟩

set_option maxRecDepth 100000 in
theorem numberNot_any (n : Int) (w : World) : Calls Tryz.prog 151 #[.int .i64 n] w fun e w' => e = .returned (.bool (!(numOk n))) ∧ w = w' := by
  unfold numOk
  by_cases h1 : n < 0
  · rw [decide_eq_true h1]
    go_enter Tryz.func151, Tryz.ntmps151
    go_wp2_with fail
    go_ret
    exact ⟨rfl, rfl⟩
  · rw [decide_eq_false h1]
    have h0 : 0 ≤ n := by omega
    by_cases h2 : 1000 < n
    · rw [decide_eq_true h2]
      go_enter Tryz.func151, Tryz.ntmps151
      go_wp2_with fail
      go_ret
      exact ⟨rfl, rfl⟩
    · rw [decide_eq_false h2]
      have h3 : n ≤ 1000 := by omega
      go_enter Tryz.func151, Tryz.ntmps151
      go_wp2_with fail
      go_ret
      exact ⟨rfl, rfl⟩

namespace Env
/-- Integers of a slice. -/
structure ZRow (w : World) (ao : Option Addr) (ns : List Int) : Prop where
  place : ∀ k (h : k < ns.length), ∃ b off, ao = some ⟨b, off, none⟩ ∧ w.cell? ⟨b, off + k, none⟩ = some (.int .i64 ns[k])
def zs (ns : List Int) : List Value := ns.map fun n => .int .i64 n
theorem zs_snoc (a : List Int) (n : Int) : zs a ++ [.int .i64 n] = zs (a ++ [n]) := by simp [zs]
theorem zrow_of {w : World} {base n : Nat} {v : Value} {ns : List Int} (hn : n = ns.length) (h : w.ownsRow base 3 1 v n (zs ns)) : ∃ ao cp, v = .slice ao ns.length cp ∧ ZRow w ao ns := by
  subst hn
  rcases h.2 with ⟨hv, h0⟩ | ⟨g, cap, cur, hv, hb, hg, _⟩
  · exact ⟨none, 0, by rw [hv, h0], ⟨fun k hk => by omega⟩⟩
  · refine ⟨_, cap, hv, ⟨fun k hk => ⟨g, 0, rfl, ?_⟩⟩⟩
    have h1 := h.cells (g := g) (by rw [hv]; rfl) k (.int .i64 ns[k]) (by unfold zs; rw [List.getElem?_map, List.getElem?_eq_getElem hk]; rfl)
    rw [Addr.add_mid] at h1
    exact h1
def IxRel (w : World) (ns : List Int) (i : Value) (wr : World) : Prop := ∃ k : Nat, i = .int .i64 k ∧ k ≤ ns.length ∧ (∀ j (h : j < ns.length), j < k → numOk ns[j] = true) ∧ w = wr
end Env

set_option maxRecDepth 100000 in
set_option maxHeartbeats 1000000 in
theorem IndexFunc_any (ns : List Int) (ao : Option Addr) (cp : Nat) (w : World) (hr : ZRow w ao ns) (hlen : ns.length ≤ 1000000) : Calls Tryz.prog 187 #[.slice ao ns.length cp, .func (.func 151) #[] #[]] w fun e w' => (∃ z : Int, e = .returned (.int .i64 z) ∧ (0 ≤ z ↔ ns.all numOk = false)) ∧ w = w' := by
  have HR := Lib.hid hr
  have HLEN := Lib.hid hlen
  clear hr hlen
  go_enter Tryz.func187, Tryz.ntmps187
  go_wp2_with fail
  go_loopw [8] (fun i wr => IxRel w ns i wr) (fun i _ => ns.length - (intOf i).toNat)
  case atStart => exact ⟨0, rfl, by omega, fun j _ h => by omega, rfl⟩
  case round =>
    obtain ⟨k, rfl, hk, hall, rfl⟩ := hrel
    have HALL := Lib.hid hall
    clear hall
    by_cases hlt : k < ns.length
    · obtain ⟨b, off, hao, hc⟩ := HR.out.place k hlt
      subst hao
      have hwk : IntKind.i64.wrap ((k : Int) + 1) = (k : Int) + 1 := IntWalk.i64_in _ (by have := HLEN.out; omega)
      have HC := Lib.hid (numberNot_any ns[k] w)
      have HNO : Hid (numOk ns[k] = false → ns.all numOk = false) := Lib.hid (fun h => by
        rw [← Bool.not_eq_true, List.all_eq_true]
        intro ha
        have := ha _ (List.getElem_mem hlt)
        rw [h] at this; cases this)
      have HYE : Hid (numOk ns[k] = true → ∀ j (h : j < ns.length), j < k + 1 → numOk ns[j] = true) := Lib.hid (fun h j hj hjk => by
        by_cases e : j = k
        · subst e; exact h
        · exact HALL.out j hj (by omega))
      obtain ⟨z, hz⟩ : ∃ z, z = numOk ns[k] := ⟨_, rfl⟩
      rw [← hz] at HC HNO HYE
      clear hz
      generalize ns[k] = y at hc HC
      cases z
      · go_wp2_with fail
        refine HC.out.mono ?_
        rintro e w' ⟨rfl, rfl⟩
        have HE := Lib.hid (HNO.out trivial)
        go_wp2_with fail
        go_ret
        exact ⟨⟨_, rfl, fun _ => HE.out, fun _ => by omega⟩, rfl⟩
      · go_wp2_with fail
        refine HC.out.mono ?_
        rintro e w' ⟨rfl, rfl⟩
        have HE := Lib.hid (HYE.out trivial)
        go_wp2_with fail
        go_roundw
        case rel => exact ⟨k + 1, by go_num, by omega, HE.out, rfl⟩
        case measure => simp [intOf]; omega
    · have HE : Hid (ns.all numOk = true) := Lib.hid (by
        rw [List.all_eq_true]
        intro x hx
        obtain ⟨j, hj, rfl⟩ := List.getElem_of_mem hx
        exact HALL.out j hj (by omega))
      go_wp2_with fail
      go_ret
      exact ⟨⟨_, rfl, fun h => by omega, fun h => by rw [HE.out] at h; cases h⟩, rfl⟩

set_option maxRecDepth 100000 in
theorem ContainsFunc_any (ns : List Int) (ao : Option Addr) (cp : Nat) (w : World) (hr : ZRow w ao ns) (hlen : ns.length ≤ 1000000) : Calls Tryz.prog 150 #[.slice ao ns.length cp, .func (.func 151) #[] #[]] w fun e w' => e = .returned (.bool (!(ns.all numOk))) ∧ w = w' := by
  have HI := Lib.hid (IndexFunc_any ns ao cp w hr hlen)
  obtain ⟨A, hA⟩ : ∃ A, A = ns.all numOk := ⟨_, rfl⟩
  rw [← hA] at HI ⊢
  clear hr hlen hA
  go_enter Tryz.func150, Tryz.ntmps150
  go_wp2_with fail
  refine HI.out.mono ?_
  rintro e w' ⟨⟨z, rfl, hz⟩, rfl⟩
  cases A
  · have hz2 : decide (0 ≤ z) = true := decide_eq_true (hz.2 rfl)
    clear hz
    go_wp2_with fail
    go_ret
    exact ⟨rfl, rfl⟩
  · have hz2 : decide (0 ≤ z) = false := decide_eq_false (fun h => by cases hz.1 h)
    clear hz
    go_wp2_with fail
    go_ret
    exact ⟨rfl, rfl⟩
end Go.Proofs.YtiekbhlnnmnklaaGreat


namespace Go.Proofs.YtiekbhlnnmnklaaGreat
open Go.RowKit Go.Shelf Lvl Trm

/-- A block of terms: those of its first places. -/
structure Trm.TBlock (w : World) (g S : Nat) (ps : List (Tm × Hd)) : Prop where
  ex : ∃ cur : Array Value, w.heap[g]? = some (.cells cur 27 (0, 0)) ∧ cur.size = S ∧ ps.length * 5 ≤ S ∧ ∀ k (hk : k < ps.length) q, q < 5 → cur[k * 5 + q]? = (ps[k].1.vals ps[k].2)[q]?

def Trm.putO (w : World) (b o : Nat) (v0 v1 v2 v3 v4 : Value) : World := ((((w.setCell ⟨b, o, none⟩ v0).setCell ⟨b, o + 1, none⟩ v1).setCell ⟨b, o + 2, none⟩ v2).setCell ⟨b, o + 3, none⟩ v3).setCell ⟨b, o + 4, none⟩ v4

theorem Trm.TBlock.cells {w : World} {g S : Nat} {ps : List (Tm × Hd)} (h : TBlock w g S ps) (k : Nat) (hk : k < ps.length) : TCells w g (k * 5) ps[k].1 ps[k].2 := by
  obtain ⟨cur, hg, _, _, hc⟩ := h
  have h0 := hc k hk 0 (by omega)
  have h1 := hc k hk 1 (by omega)
  have h2 := hc k hk 2 (by omega)
  have h3 := hc k hk 3 (by omega)
  have h4 := hc k hk 4 (by omega)
  refine ⟨?_, ?_, ?_, ?_, ?_⟩ <;> (simp only [World.cell?, hg]; simp [Tm.vals] at h0 h1 h2 h3 h4 ⊢; assumption)
theorem Trm.TBlock.free {w : World} {g S : Nat} {ps : List (Tm × Hd)} (h : TBlock w g S ps) (o : Nat) : w.frozen? ⟨g, o, none⟩ = false := by
  obtain ⟨cur, hg, _⟩ := h
  simp [World.frozen?, hg]
theorem Trm.TBlock.lt {w : World} {g S : Nat} {ps : List (Tm × Hd)} (h : TBlock w g S ps) : g < w.heap.size := by
  obtain ⟨cur, hg, _⟩ := h
  exact (Array.getElem?_eq_some_iff.1 hg).1
def Trm.five (cur : Array Value) (o : Nat) (v0 v1 v2 v3 v4 : Value) : Array Value := ((((cur.setIfInBounds o v0).setIfInBounds (o + 1) v1).setIfInBounds (o + 2) v2).setIfInBounds (o + 3) v3).setIfInBounds (o + 4) v4
theorem Trm.five_size (cur : Array Value) (o : Nat) (v0 v1 v2 v3 v4 : Value) : (five cur o v0 v1 v2 v3 v4).size = cur.size := by simp [five]
theorem Trm.five_far (cur : Array Value) (o : Nat) (v0 v1 v2 v3 v4 : Value) (x : Nat) (h : x < o ∨ o + 4 < x) : (five cur o v0 v1 v2 v3 v4)[x]? = cur[x]? := by
  unfold five
  simp only [Array.getElem?_setIfInBounds]
  rw [if_neg (by omega), if_neg (by omega), if_neg (by omega), if_neg (by omega), if_neg (by omega)]
theorem Trm.five_at (cur : Array Value) (o : Nat) (v0 v1 v2 v3 v4 : Value) (h : o + 4 < cur.size) :
    (five cur o v0 v1 v2 v3 v4)[o]? = some v0 ∧ (five cur o v0 v1 v2 v3 v4)[o + 1]? = some v1 ∧ (five cur o v0 v1 v2 v3 v4)[o + 2]? = some v2 ∧ (five cur o v0 v1 v2 v3 v4)[o + 3]? = some v3 ∧ (five cur o v0 v1 v2 v3 v4)[o + 4]? = some v4 := by
  unfold five
  simp only [Array.getElem?_setIfInBounds, Array.size_setIfInBounds]
  refine ⟨?_, ?_, ?_, ?_, ?_⟩
  · rw [if_neg (by omega), if_neg (by omega), if_neg (by omega), if_neg (by omega), if_pos trivial, if_pos (by omega)]
  · rw [if_neg (by omega), if_neg (by omega), if_neg (by omega), if_pos trivial, if_pos (by omega)]
  · rw [if_neg (by omega), if_neg (by omega), if_pos trivial, if_pos (by omega)]
  · rw [if_neg (by omega), if_pos trivial, if_pos (by omega)]
  · rw [if_pos trivial, if_pos (by omega)]
theorem Trm.TBlock.put {w : World} {g S : Nat} {ps : List (Tm × Hd)} (h : TBlock w g S ps) (i : Nat) (hi : i < ps.length) (p : Tm × Hd) :
    TBlock (putO w g (i * 5) (.int .u8 p.1.k) (.int .i64 p.1.n) (.string p.1.s) (.slice p.2.lo p.1.ls.length p.2.lc) (.slice p.2.to p.1.ts.length p.2.tc)) g S (ps.set i p) := by
  obtain ⟨cur, hg, hs, hl, hc⟩ := h
  refine ⟨five cur (i * 5) (.int .u8 p.1.k) (.int .i64 p.1.n) (.string p.1.s) (.slice p.2.lo p.1.ls.length p.2.lc) (.slice p.2.to p.1.ts.length p.2.tc), ?_, ?_, ?_, ?_⟩
  · simp [putO, five, World.setCell, Array.getElem?_modify, hg]
  · rw [five_size, hs]
  · simpa using hl
  · intro k hk q hq
    simp only [List.length_set] at hk
    by_cases hki : i = k
    · subst hki
      rw [List.getElem_set_self]
      obtain ⟨f0, f1, f2, f3, f4⟩ := five_at cur (i * 5) (.int .u8 p.1.k) (.int .i64 p.1.n) (.string p.1.s) (.slice p.2.lo p.1.ls.length p.2.lc) (.slice p.2.to p.1.ts.length p.2.tc) (by omega)
      have h5 : q = 0 ∨ q = 1 ∨ q = 2 ∨ q = 3 ∨ q = 4 := by omega
      rcases h5 with rfl | rfl | rfl | rfl | rfl
      · exact f0
      · exact f1
      · exact f2
      · exact f3
      · exact f4
    · rw [five_far _ _ _ _ _ _ _ _ (by omega), List.getElem_set_ne hki]
      exact hc k hk q hq
theorem Trm.Ran.set (w : World) (g o : Nat) (v : Value) : Ran g w (w.setCell ⟨g, o, none⟩ v) := ⟨rfl, rfl, rfl, by simp [World.setCell], fun k _ hk => Below.heap_setCell _ _ _ _ hk⟩
theorem Trm.putO_ran (w : World) (g o : Nat) (v0 v1 v2 v3 v4 : Value) : Ran g w (putO w g o v0 v1 v2 v3 v4) :=
  ((((Ran.set w g o v0).trans (Ran.set _ g (o + 1) v1)).trans (Ran.set _ g (o + 2) v2)).trans (Ran.set _ g (o + 3) v3)).trans (Ran.set _ g (o + 4) v4)

theorem Trm.TBlock.drew {w : World} {g S : Nat} {ps : List (Tm × Hd)} (h : TBlock w g S ps) : TBlock w.drew g S ps := by
  obtain ⟨cur, h⟩ := h
  exact ⟨⟨cur, h⟩⟩
theorem Trm.RevStep.mk {ps cur : List (Tm × Hd)} {a b : Nat} (han : a < ps.length) (hbn : b < ps.length) (hb : b = ps.length - 1 - a) (hlt : 2 * a + 1 < ps.length)
    (h : ∀ k (h1 : k < cur.length) (h2 : k < ps.length) (h3 : ps.length - 1 - k < ps.length), (k < a ∨ ps.length ≤ k + a → cur[k] = ps[ps.length - 1 - k]) ∧ (¬ (k < a ∨ ps.length ≤ k + a) → cur[k] = ps[k])) :
    ∀ k (h1 : k < ((cur.set a ps[b]).set b ps[a]).length) (h2 : k < ps.length) (h3 : ps.length - 1 - k < ps.length), (k < a + 1 ∨ ps.length ≤ k + (a + 1) → ((cur.set a ps[b]).set b ps[a])[k] = ps[ps.length - 1 - k]) ∧ (¬ (k < a + 1 ∨ ps.length ≤ k + (a + 1)) → ((cur.set a ps[b]).set b ps[a])[k] = ps[k]) := by
  intro k h1 h2 h3
  simp only [List.length_set] at h1
  rw [List.getElem_set]
  split
  · rename_i e
    subst e
    refine ⟨fun _ => ?_, fun hn => by omega⟩
    congr 1
    omega
  · rw [List.getElem_set]
    split
    · rename_i e
      subst e
      refine ⟨fun _ => ?_, fun hn => by omega⟩
      subst hb
      rfl
    · have := h k h1 h2 h3
      exact ⟨fun hk => this.1 (by omega), fun hk => this.2 (by omega)⟩
end Go.Proofs.YtiekbhlnnmnklaaGreat



namespace Go.Proofs.YtiekbhlnnmnklaaGreat
namespace Lvl

def stepC (c p : Int) : Int := if p = -1 then c else if c ≤ p then 0 else c
theorem stepC_or (c p : Int) (h : -1 ≤ p) : (stepC c p = c ∧ (p = -1 ∨ p < c)) ∨ (stepC c p = 0 ∧ 0 ≤ p ∧ c ≤ p) := by
  unfold stepC
  by_cases h1 : p = -1
  · rw [if_pos h1]; exact .inl ⟨rfl, .inl h1⟩
  · rw [if_neg h1]
    by_cases h2 : c ≤ p
    · rw [if_pos h2]; exact .inr ⟨rfl, by omega, h2⟩
    · rw [if_neg h2]; exact .inl ⟨rfl, .inr (by omega)⟩
theorem formC_one (c i p : Int) (r : List (Int × Int)) : formC c (one i p ++ r) = formC (stepC c p) r := by
  unfold one stepC formC
  by_cases h : p = -1
  · rw [if_pos h, if_pos h]; rfl
  · rw [if_neg h, if_neg h]; rfl
theorem form_c_eq (l : Lv) : l.form.c = stepC (stepC (stepC (stepC l.c l.p0) l.p1) l.p2) l.p3 := by
  have h : l.ps = one 0 l.p0 ++ (one 1 l.p1 ++ (one 2 l.p2 ++ (one 3 l.p3 ++ []))) := by simp [Lv.ps]
  show formC l.c l.ps = _
  rw [h, formC_one, formC_one, formC_one, formC_one]
  rfl

/-- A level whose numbers are from -1 on. -/
def Lv.fine (l : Lv) : Prop := 0 ≤ l.c ∧ -1 ≤ l.p0 ∧ -1 ≤ l.p1 ∧ -1 ≤ l.p2 ∧ -1 ≤ l.p3
/-- C in the one form. -/
def Lv.formed (l : Lv) (c : Int) : Prop :=
  (c = l.c ∧ (l.p0 = -1 ∨ l.p0 < l.c) ∧ (l.p1 = -1 ∨ l.p1 < l.c) ∧ (l.p2 = -1 ∨ l.p2 < l.c) ∧ (l.p3 = -1 ∨ l.p3 < l.c)) ∨
  (c = 0 ∧ ((0 ≤ l.p0 ∧ l.c ≤ l.p0) ∨ (0 ≤ l.p1 ∧ l.c ≤ l.p1) ∨ (0 ≤ l.p2 ∧ l.c ≤ l.p2) ∨ (0 ≤ l.p3 ∧ l.c ≤ l.p3)))
theorem form_formed (l : Lv) (h : l.fine) : l.formed l.form.c := by
  obtain ⟨hc, h0, h1, h2, h3⟩ := h
  rw [form_c_eq]
  unfold Lv.formed
  have a0 := stepC_or l.c l.p0 h0
  generalize stepC l.c l.p0 = x0 at *
  have a1 := stepC_or x0 l.p1 h1
  generalize stepC x0 l.p1 = x1 at *
  have a2 := stepC_or x1 l.p2 h2
  generalize stepC x1 l.p2 = x2 at *
  have a3 := stepC_or x2 l.p3 h3
  generalize stepC x2 l.p3 = x3 at *
  rcases a0 with a0 | a0 <;> rcases a1 with a1 | a1 <;> rcases a2 with a2 | a2 <;> rcases a3 with a3 | a3 <;> omega

def top : Int := 1099511627776
/-- What it says that a level may be. -/
def Lv.ok (l : Lv) : Prop := (0 ≤ l.c ∧ l.c ≤ 1099511627776) ∧ (-1 ≤ l.p0 ∧ l.p0 ≤ 1099511627776) ∧ (-1 ≤ l.p1 ∧ l.p1 ≤ 1099511627776) ∧ (-1 ≤ l.p2 ∧ l.p2 ≤ 1099511627776) ∧ (-1 ≤ l.p3 ∧ l.p3 ≤ 1099511627776) ∧
  (l.c = 0 ∨ ((l.p0 = -1 ∨ l.p0 < l.c) ∧ (l.p1 = -1 ∨ l.p1 < l.c) ∧ (l.p2 = -1 ∨ l.p2 < l.c) ∧ (l.p3 = -1 ∨ l.p3 < l.c)))
theorem within_iff (l : Lv) : l.within = true ↔ (0 ≤ l.c ∧ l.c ≤ 1099511627776) ∧ (-1 ≤ l.p0 ∧ l.p0 ≤ 1099511627776) ∧ (-1 ≤ l.p1 ∧ l.p1 ≤ 1099511627776) ∧ (-1 ≤ l.p2 ∧ l.p2 ≤ 1099511627776) ∧ (-1 ≤ l.p3 ∧ l.p3 ≤ 1099511627776) := by
  simp only [Lv.within, decide_eq_true_eq]
  omega
theorem may_iff (l : Lv) : l.may = true ↔ l.ok := by
  unfold Lv.may Lv.ok
  rw [Bool.and_eq_true, beq_iff_eq, within_iff]
  constructor
  · rintro ⟨⟨hc, h0, h1, h2, h3⟩, hf⟩
    have := form_formed l ⟨hc.1, h0.1, h1.1, h2.1, h3.1⟩
    unfold Lv.formed at this
    rw [← hf] at this
    omega
  · rintro ⟨hc, h0, h1, h2, h3, h⟩
    have := form_formed l ⟨hc.1, h0.1, h1.1, h2.1, h3.1⟩
    unfold Lv.formed at this
    refine ⟨⟨hc, h0, h1, h2, h3⟩, ?_⟩
    omega

/-- The one form of a level. -/
theorem form_p (l : Lv) : l.form.p0 = l.p0 ∧ l.form.p1 = l.p1 ∧ l.form.p2 = l.p2 ∧ l.form.p3 = l.p3 := ⟨rfl, rfl, rfl, rfl⟩
/-- Is a at most b, at all numbers? -/
def Leq (a b : Lv) : Prop := a.p0 ≤ b.p0 ∧ a.p1 ≤ b.p1 ∧ a.p2 ≤ b.p2 ∧ a.p3 ≤ b.p3 ∧ (a.c ≤ b.c ∨ (0 ≤ b.p0 ∧ a.c ≤ b.p0) ∨ (0 ≤ b.p1 ∧ a.c ≤ b.p1) ∨ (0 ≤ b.p2 ∧ a.c ≤ b.p2) ∨ (0 ≤ b.p3 ∧ a.c ≤ b.p3))
theorem form_ext {a b : Lv} (ha : a.fine) (hb : b.fine) (h0 : a.p0 = b.p0) (h1 : a.p1 = b.p1) (h2 : a.p2 = b.p2) (h3 : a.p3 = b.p3) (hc : ∀ x y, a.formed x → b.formed y → x = y) : a.form = b.form :=
  Lv.ext_all (hc _ _ (form_formed a ha) (form_formed b hb)) h0 h1 h2 h3
theorem Lv.ok.fine {l : Lv} (h : l.ok) : l.fine := by unfold Lv.ok at h; unfold Lv.fine; omega
theorem join_fine {a b : Lv} (ha : a.fine) (hb : b.fine) : (a.join b).fine := by
  unfold Lv.fine at *; simp only [Lv.join]; omega
theorem ok_formed {l : Lv} (h : l.ok) : l.form = l := by
  refine Lv.ext_all ?_ rfl rfl rfl rfl
  have hf := form_formed l h.fine
  unfold Lv.formed at hf
  unfold Lv.ok at h
  omega
/-! What a level is at numbers. -/
def stepM (m p a : Int) : Int := if p = -1 then m else max m (a + p)
theorem stepM_le (m p a x : Int) : stepM m p a ≤ x ↔ m ≤ x ∧ (p = -1 ∨ a + p ≤ x) := by
  unfold stepM
  by_cases h : p = -1
  · rw [if_pos h]; omega
  · rw [if_neg h]; omega
def ev (l : Lv) (n : Four) : Int := stepM (stepM (stepM (stepM l.c l.p0 n.a0) l.p1 n.a1) l.p2 n.a2) l.p3 n.a3
theorem ev_le (l : Lv) (n : Four) (x : Int) : ev l n ≤ x ↔ l.c ≤ x ∧ (l.p0 = -1 ∨ n.a0 + l.p0 ≤ x) ∧ (l.p1 = -1 ∨ n.a1 + l.p1 ≤ x) ∧ (l.p2 = -1 ∨ n.a2 + l.p2 ≤ x) ∧ (l.p3 = -1 ∨ n.a3 + l.p3 ≤ x) := by
  unfold ev
  rw [stepM_le, stepM_le, stepM_le, stepM_le]
  constructor
  · rintro ⟨⟨⟨⟨h, h0⟩, h1⟩, h2⟩, h3⟩; exact ⟨h, h0, h1, h2, h3⟩
  · rintro ⟨h, h0, h1, h2, h3⟩; exact ⟨⟨⟨⟨h, h0⟩, h1⟩, h2⟩, h3⟩
theorem ev_eq {l k : Lv} {n m : Four} (h : ∀ x, ev l n ≤ x ↔ ev k m ≤ x) : ev l n = ev k m :=
  Int.le_antisymm ((h _).2 (Int.le_refl _)) ((h _).1 (Int.le_refl _))
def Four.pos (n : Four) : Prop := 0 ≤ n.a0 ∧ 0 ≤ n.a1 ∧ 0 ≤ n.a2 ∧ 0 ≤ n.a3
theorem ev_form {l : Lv} (hl : l.fine) {n : Four} (hn : n.pos) : ev l.form n = ev l n := by
  refine ev_eq fun x => ?_
  have hf := form_formed l hl
  obtain ⟨e0, e1, e2, e3⟩ := form_p l
  rw [ev_le, ev_le, e0, e1, e2, e3]
  unfold Lv.formed at hf
  unfold Four.pos at hn
  unfold Lv.fine at hl
  generalize l.form.c = z at *
  rcases hf with ⟨rfl, _⟩ | ⟨rfl, hf⟩
  · exact Iff.rfl
  · constructor
    · rintro ⟨h, g⟩
      refine ⟨?_, g⟩
      rcases hf with hf | hf | hf | hf <;> omega
    · rintro ⟨h, g⟩
      exact ⟨by omega, g⟩
theorem stepM_max (m k p q a : Int) (hp : -1 ≤ p) (hq : -1 ≤ q) : stepM (max m k) (max p q) a = max (stepM m p a) (stepM k q a) := by
  unfold stepM
  by_cases h : p = -1 <;> by_cases h' : q = -1
  · rw [if_pos (by omega), if_pos h, if_pos h']
  · rw [if_neg (by omega), if_pos h, if_neg h']; omega
  · rw [if_neg (by omega), if_neg h, if_pos h']; omega
  · rw [if_neg (by omega), if_neg h, if_neg h']; omega
theorem ev_join {a b : Lv} (ha : a.fine) (hb : b.fine) (n : Four) : ev (a.join b) n = max (ev a n) (ev b n) := by
  obtain ⟨_, a0, a1, a2, a3⟩ := ha
  obtain ⟨_, b0, b1, b2, b3⟩ := hb
  simp only [ev, Lv.join]
  rw [stepM_max _ _ _ _ _ a0 b0, stepM_max _ _ _ _ _ a1 b1, stepM_max _ _ _ _ _ a2 b2, stepM_max _ _ _ _ _ a3 b3]
theorem stepM_up (m p a n : Int) (hp : -1 ≤ p) (hn : 0 ≤ n) : stepM (m + n) (up p n) a = stepM m p a + n := by
  unfold stepM up
  by_cases h : p = -1
  · rw [if_pos h, if_pos h, if_pos rfl]
  · rw [if_neg h, if_neg h, if_neg (by omega)]; omega
theorem ev_plus {a : Lv} (ha : a.fine) (k : Int) (hk : 0 ≤ k) (n : Four) : ev (a.plus k) n = ev a n + k := by
  obtain ⟨_, a0, a1, a2, a3⟩ := ha
  simp only [ev, Lv.plus]
  rw [stepM_up _ _ _ _ a0 hk, stepM_up _ _ _ _ a1 hk, stepM_up _ _ _ _ a2 hk, stepM_up _ _ _ _ a3 hk]
theorem plus_fine {a : Lv} (ha : a.fine) (k : Int) (hk : 0 ≤ k) : (a.plus k).fine := by
  unfold Lv.fine Lv.plus up at *
  simp only
  refine ⟨by omega, ?_, ?_, ?_, ?_⟩ <;> (split <;> omega)
theorem form_fine {l : Lv} (h : l.fine) : l.form.fine := by
  have hf := form_formed l h
  unfold Lv.formed at hf
  unfold Lv.fine at *
  obtain ⟨e0, e1, e2, e3⟩ := form_p l
  rw [e0, e1, e2, e3]
  omega

/-- At numbers that are 0, and at each of which one is great. -/
def great : Int := 2199023255552
def Four.zero : Four := ⟨0, 0, 0, 0⟩
end Lvl
end Go.Proofs.YtiekbhlnnmnklaaGreat



namespace Go.Proofs.YtiekbhlnnmnklaaGreat
open Go.RowKit Go.Shelf Lvl Trm

/-- Is a number of a parameter such as may be beside C? -/
def Trm.good (c p : Int) : Prop := -1 ≤ p ∧ p ≤ 1099511627776 ∧ (c ≤ p → 0 ≤ p → c ≤ 0)
theorem Trm.Kept.drewN {w wr : World} {o : Obj} (h : Kept w wr o) (n : Nat) : Kept w (wr.drewN n) o := by
  refine h.step ⟨?_, ?_, ?_, ?_, ?_⟩ <;> simp [World.drewN]

end Go.Proofs.YtiekbhlnnmnklaaGreat



namespace Go.Proofs.YtiekbhlnnmnklaaGreat
open Go.RowKit Go.Shelf Lvl Trm

theorem Trm.empty_iff (s : ByteArray) : s.toList.isEmpty = decide (s.size = 0) := by
  rw [ByteArray.toList_eq]
  show s.data.toList.isEmpty = decide (s.data.size = 0)
  rw [← Array.length_toList]
  cases s.data.toList <;> simp
end Go.Proofs.YtiekbhlnnmnklaaGreat


