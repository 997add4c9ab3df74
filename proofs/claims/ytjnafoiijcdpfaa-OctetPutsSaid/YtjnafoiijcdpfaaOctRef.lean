/-
  The document's own Number, Put and PutName; a slice with room behind it.
-/
import Derived.Test.YtjnafoiijcdpfaaOctPrefix
namespace Go.Proofs.Ytjnafoiijcdpfaa
open Go.RowKit Oct

theorem Oct.add128 (m : Nat) : 128 + (m : Int) % 128 = ((UInt8.ofNat (m % 128 + 128)).toNat : Int) := by
  rw [toNat_ofNat (by omega)]
  omega
theorem Oct.wrap_div {m : Nat} (h : m < 18446744073709551616) : IntKind.u64.wrap ((m : Int) / 128) = (m : Int) / 128 := by
  rw [IntKind.wrap_u64]; omega
def Oct.RefRel (w : World) (goal : List UInt8) (nv out : Value) (wr : World) : Prop :=
  ∃ (m : Nat) (acc : List UInt8), nv = .int .u64 m ∧ acc ++ enc m = goal ∧ wr.ownsRow w.heap.size 5 1 out acc.length (cells acc) ∧ Below w.heap.size w wr ∧ m < 18446744073709551616
theorem Oct.ref_step {w wr w1 : World} {G acc : List UInt8} {m : Nat} {u5 v' : Value} {o : Obj} {b : UInt8} (hb : Hid (b = UInt8.ofNat (m % 128 + 128))) (hm : 128 ≤ m) (HE : Hid (acc ++ enc m = G))
    (hown' : w1.ownsRow w.heap.size 5 1 v' (acc.length + 1) (cells acc ++ cells [b])) (hbel : Below w.heap.size w wr) (hgrow : (wr.alloc o).grownBy w1 u5.ownBlock) (hown : wr.ownsRow w.heap.size 5 1 u5 acc.length (cells acc)) (HM : m < 18446744073709551616) :
    RefRel w G (.int .u64 (IntKind.u64.wrap ((m : Int) / 128))) v' w1 := by
  rw [wrap_div HM]
  obtain ⟨m', acc', h1, h2, h3, h4⟩ := put_step hb hm HE hown' hbel hgrow hown
  refine ⟨m', acc', h1, h2, h3, h4, ?_⟩
  simp only [Value.int.injEq, true_and] at h1
  omega

set_option maxRecDepth 100000 in
set_option maxHeartbeats 400000 in
theorem refNumber_any (w : World) (N : Nat) (hM : N < 18446744073709551616) :
    Calls Try.prog 32 #[.int .u64 N] w (Made w (enc N)) := by
  obtain ⟨i0, hi, hz0, hz1, hz2⟩ := info_parts Try.info5
  obtain ⟨G, hG⟩ : ∃ G, G = enc N := ⟨_, rfl⟩
  have hG0 := Lib.hid hG
  have hl : G.length ≤ 10 := by rw [hG]; exact enc_length_le hM
  rw [← hG]
  have HM := Lib.hid hM
  clear hG hM
  go_enter Try.func32, Try.ntmps32
  go_wp2
  go_loopw [0, 3] (fun nv out wr => RefRel w G nv out wr) (fun nv _ _ => (intOf nv).toNat)
  case atStart => exact ⟨N, [], rfl, by rw [hG0.out]; rfl, World.ownsRow_nil _ _ _ _, Below.refl _ _, HM.out⟩
  case round =>
    obtain ⟨m, acc, rfl, hE, hown, hbel, hm⟩ := hrel
    have HMM := Lib.hid hm
    clear hm
    have hal : acc.length ≤ 10 := by
      have h1 := congrArg List.length hE
      simp only [List.length_append] at h1
      omega
    have HE := Lib.hid hE
    clear hE
    by_cases hlt : 128 ≤ m
    · obtain ⟨b, hb⟩ : ∃ b, b = UInt8.ofNat (m % 128 + 128) := ⟨_, rfl⟩
      have HB := Lib.hid hb
      clear hb
      have h127 : 127 < m := by omega
      go_wp2_with (at_builtin; refine wpList_append_own _ rfl _ _ 22 rfl w.heap.size 5 i0 (.int .u8 0) 1 1 Try.underlying22 hi hz0 hz1 hz2 rfl (by decide) _ _ _ rfl (hown.alloc _) ⟨wr.heap.size, 0, none⟩ 1 1 (cells [b]) rfl rfl ?c1 ?c2 ?c3 ?c4 ?c5 ?_)
      case c1 =>
        refine one_new _ _ _ ?_
        rw [HB.out]
        exact add128 m
      case c2 => exact cells_one _
      case c3 => unfold maxLen; omega
      case c4 => omega
      case c5 => have := hbel.size; simp; omega
      intro v' w1 hown' hgrow _
      go_wp2
      go_roundw
      case rel => exact ref_step HB hlt HE hown' hbel hgrow hown HMM.out
      case measure => rw [wrap_div HMM.out]; simp [intOf]; omega
    · have h127 : ¬ 127 < m := by omega
      go_wp2_with (at_builtin; refine wpList_append_own _ rfl _ _ 22 rfl w.heap.size 5 i0 (.int .u8 0) 1 1 Try.underlying22 hi hz0 hz1 hz2 rfl (by decide) _ _ _ rfl (hown.alloc _) ⟨wr.heap.size, 0, none⟩ 1 1 (cells [UInt8.ofNat m]) rfl rfl ?d1 ?d2 ?d3 ?d4 ?d5 ?_)
      case d1 => exact one_new _ _ _ (by rw [toNat_ofNat (by omega)])
      case d2 => exact cells_one _
      case d3 => unfold maxLen; omega
      case d4 => omega
      case d5 => have := hbel.size; simp; omega
      intro v' w1 hown' hgrow _
      go_wp2
      go_ret
      exact put_end (by omega) HE hown' hbel hgrow hown

theorem Oct.own_keptAll {w w' : World} {B : Nat} {v : Value} {n : Nat} {xs : List Value} (h : w.ownsRow B 5 1 v n xs) (g : Below w.heap.size w w') : w'.ownsRow B 5 1 v n xs :=
  h.kept (Below.grownBy g none) (by cases v.ownBlock <;> simp)

set_option maxRecDepth 100000 in
set_option maxHeartbeats 1000000 in
theorem refPut_any (w : World) (ao : Option Addr) (cap : Nat) (bs : List UInt8) (N : Nat) (hM : N < 18446744073709551616) (hb : Row w ao cap bs) (hs : bs.length ≤ 1000000) :
    Calls Try.prog 14 #[.slice ao bs.length cap, .int .u64 N] w (Made w (bs ++ enc N)) := by
  have hl := enc_length_le hM
  obtain ⟨E, hE⟩ : ∃ E, E = enc N := ⟨_, rfl⟩
  have hnum := fun w => refNumber_any w N hM
  rw [← hE] at hl hnum ⊢
  have HN := Lib.hid hnum
  have HR := Lib.hid hb
  clear hE hnum hM hb
  go_enter Try.func14, Try.ntmps14
  go_wp2_with (at_builtin; refine wpList_append_row rfl (.tmp 5) (.tmp 6) rfl w.heap.size (.slice (some ⟨w.heap.size, 0, none⟩) 0 0) 0 [] rfl (own_empty (w := w) (Nat.le_refl _)) ao bs.length cap bs rfl rfl (HR.out.alloc _) (by omega) (by simp) ?_)
  intro x1 w1 own1 g1
  have b1 : Below w.heap.size w w1 := ((Below.refl _ _).alloc (Nat.le_refl _) _).grown g1 (by simp) (fun k hk => by simp [Value.ownBlock] at hk; omega)
  have HO1 := Lib.hid own1
  have HB1 := Lib.hid b1
  clear own1 g1 b1
  go_wp2_with fail
  refine (HN.out _).mono ?_
  rintro e w2 ⟨x2, rfl, own2, b2⟩
  obtain ⟨ao2, c2, hx2⟩ := own_shape own2
  subst hx2
  have HO2 := Lib.hid own2
  have HO12 := Lib.hid (own_keptAll HO1.out b2)
  have HB2 := Lib.hid (HB1.out.trans (b2.mono HB1.out.size))
  clear own2 b2
  go_wp2_with (at_builtin; refine wpList_append_row rfl (.tmp 7) (.tmp 9) rfl w.heap.size x1 bs.length bs rfl (by simpa using HO12.out) ao2 E.length c2 E rfl rfl (Row.ofOwn HO2.out) (by omega) HB2.out.size ?_)
  intro x3 w3 own3 g3
  have b3 : Below w.heap.size w w3 := HB2.out.grown g3 HB2.out.size (fun k hk => (HO1.out.lt k hk).1)
  have HO3 := Lib.hid own3
  have HB3 := Lib.hid b3
  clear own3 g3 b3
  go_wp2
  go_ret
  exact ⟨x3, rfl, by rw [List.length_append]; exact HO3.out, HB3.out⟩

set_option maxRecDepth 100000 in
set_option maxHeartbeats 1000000 in
theorem refPutName_no (w : World) (ao : Option Addr) (n cap : Nat) (s : ByteArray) (hs : s.size ≤ 1000000) (hn : isName s.data.toList = false) :
    Calls Try.prog 13 #[.slice ao n cap, .string s] w (NotName w) := by
  have HN := Lib.hid hn
  clear hn
  go_enter Try.func13, Try.ntmps13
  go_wp2_with (go_at_call 16; refine (is_any _ _ hs).mono ?_; rw [HN.out]; rintro e w' ⟨rfl, rfl⟩)
  go_ret2
  exact ⟨rfl, rfl⟩

set_option maxRecDepth 100000 in
set_option maxHeartbeats 1000000 in
theorem refPutName_yes (w : World) (ao : Option Addr) (cap : Nat) (bs : List UInt8) (s : ByteArray) (hb : Row w ao cap bs) (hl : bs.length ≤ 900000) (hs : s.size ≤ 1000000) (hn : isName s.data.toList = true) :
    Calls Try.prog 13 #[.slice ao bs.length cap, .string s] w (MadeOk w (bs ++ enc s.size ++ s.data.toList)) := by
  have HN := Lib.hid hn
  clear hn
  have he := enc_length_le (n := s.size) (by omega)
  obtain ⟨i0, hi, hz0, hz1, hz2⟩ := info_parts Try.info5
  have hl2 : (bs ++ enc s.size).length ≤ 1000010 := by simp only [List.length_append]; omega
  have hput := refPut_any w ao cap bs s.size (by omega) hb (by omega)
  obtain ⟨G, hG⟩ : ∃ G, G = bs ++ enc s.size := ⟨_, rfl⟩
  rw [← hG] at hl2 hput ⊢
  have HP := Lib.hid hput
  clear hG hput
  go_enter Try.func13, Try.ntmps13
  go_wp2_with (first
    | (go_at_call 16; refine (is_any _ _ hs).mono ?_; rw [HN.out]; rintro e w' ⟨rfl, rfl⟩)
    | (go_at_call 14; refine HP.out.mono ?_; rintro e w1 ⟨v1, rfl, own1, bel1⟩)
    | (refine Lib.wpList_append_own_string _ rfl _ _ 22 9 rfl w.heap.size 5 i0 Try.underlying22 Try.underlying9 hi hz0 hz1 hz2 _ _ _ rfl own1 s rfl (by unfold maxLen; omega) (by omega) bel1.size ?_; intro v' w2 own2 g2 _))
  go_ret2
  refine ⟨v', rfl, ?_, bel1.grown g2 bel1.size (fun k hk => (own1.lt k hk).1)⟩
  rw [strCells_eq, ← cells_append] at own2
  have e : (G ++ s.data.toList).length = G.length + s.size := by simp
  rw [e]
  exact own2

/-- A slice at the head of a row that is known whole, with room behind its bytes: 'append' onto nothing. -/
theorem Oct.wpList_append_head {w : World} {ops : Array Oper} {rest : List Oper} {o : Oper} {a : Act} {Q : Exit → Act → World → Prop} (hgd : o.guard = none) (s x : Operand)
    (ho : o.op = .call { callee := .builtin .append, args := #[s, x], argTypes := #[22, 22] })
    (g cap : Nat) (cur : Array Value) (hs : a.eval s = .slice (some ⟨g, 0, none⟩) 0 cap) (hg : w.heap[g]? = some (.cells cur 5 (0, 0))) (hcs : cur.size = cap) (hcm : cap ≤ maxLen) (ao : Option Addr) (m c : Nat) (bs : List UInt8) (hx : a.eval x = .slice ao m c) (hm : bs.length = m)
    (hrow : Row w ao c bs) (hroom : m ≤ cap)
    (h : ∀ w', w'.heap[g]? = some (.cells (cells bs ++ cur.toList.drop m).toArray 5 (0, 0)) → w.grownBy w' (some g) → wpList Try.prog ops Q rest (a.put o.dst (.slice (some ⟨g, 0, none⟩) m cap)) w') : wpList Try.prog ops Q (o :: rest) a w := by
  obtain ⟨i0, hi, hz0, hz1, hz2⟩ := info_parts Try.info5
  subst hm
  cases ao with
  | some ad =>
    refine wpList_plain hgd fun K hK => ?_
    have hr := run_append_room (P := Try.prog) w 22 o.type 5 i0 Try.underlying22 hi g 0 cap cur hg ad bs.length c (cells bs) (by simp [cells_length, hz1]) (hrow.cell ad rfl) (cells_one bs) (by omega) (by simp [cells_length]; omega)
    unfold Oper.wp execOp
    simp only [ho, resolve, invoke, builtin, Sem.run_bind, Sem.run_pure, Result.andThen_ok, List.map_toArray, List.map_cons, List.map_nil, hs, hx, hr]
    rw [Nat.zero_add]
    refine hK _ _ (h _ ?_ ⟨rfl, rfl, rfl, by simp, fun k _ hk => setRow_other w g k _ (fun e => hk (by rw [e]))⟩)
    rw [setRow_heap w g cur _ 5 _ hg]
    simp [cells_length]
  | none =>
    obtain ⟨h1, rfl⟩ := hrow.nil rfl
    obtain rfl : bs = [] := List.eq_nil_of_length_eq_zero h1
    refine wpList_append_own_none hgd s x 22 ho 0 5 i0 1 Try.underlying22 hi (.slice (some ⟨g, 0, none⟩) 0 cap) 0 [] hs ⟨rfl, .inr ⟨g, cap, cur, rfl, Nat.zero_le _, hg, Nat.zero_le _, hcm, by omega, rfl⟩⟩ hx ?_
    exact h w (by rw [hg]; simp [cells]) (grownBy_self _ _)

/-- Block g holds these bytes, and 64 noughts behind them. -/
def Oct.RoomAt (w : World) (g : Nat) (bs : List UInt8) : Prop := w.heap[g]? = some (.cells (cells bs ++ List.replicate 64 (Value.int .u8 0)).toArray 5 (0, 0))
def Oct.RoomMade (w : World) (bs : List UInt8) (n : Nat) (e : Ending) (w' : World) : Prop :=
  ∃ g, e = .returned (.slice (some ⟨g, 0, none⟩) n (n + 64)) ∧ w.heap.size ≤ g ∧ Below w.heap.size w w' ∧ RoomAt w' g bs

theorem Oct.RoomAt.row {w : World} {g : Nat} {bs : List UInt8} (h : RoomAt w g bs) (hl : bs.length ≤ 1000000) : Row w (some ⟨g, 0, none⟩) (bs.length + 64) bs := by
  refine ⟨by omega, by unfold maxLen; omega, by simp, fun a ha j u hu => ?_⟩
  cases ha
  have hj : j < (cells bs).length := (List.getElem?_eq_some_iff.1 hu).1
  rw [Addr.add_lit, Nat.zero_add, cell_of_row w g j _ _ (0, 0) h, ← hu]
  simp only [List.getElem?_toArray]
  exact List.getElem?_append_left hj
theorem Oct.RoomAt.nought {w : World} {g : Nat} {bs : List UInt8} (h : RoomAt w g bs) (i : Nat) (h1 : bs.length ≤ i) (h2 : i < bs.length + 64) : w.cell? ⟨g, i, none⟩ = some (.int .u8 0) := by
  rw [cell_of_row w g i _ _ (0, 0) h]
  simp only [List.getElem?_toArray]
  rw [List.getElem?_append_right (by rw [cells_length]; exact h1), List.getElem?_replicate, if_pos (by rw [cells_length]; omega)]
theorem Oct.RoomAt.keptAll {w w' : World} {g : Nat} {bs : List UInt8} (h : RoomAt w g bs) (b : Below w.heap.size w w') : RoomAt w' g bs := by
  have hg : g < w.heap.size := (Array.getElem?_eq_some_iff.1 h).1
  unfold RoomAt
  rw [b.block g hg]; exact h

set_option maxRecDepth 100000 in
set_option maxHeartbeats 1000000 in
theorem roomy_any (w : World) (ao : Option Addr) (cap n : Nat) (bs : List UInt8) (hb : Row w ao cap bs) (hn : bs.length = n) (hl : n ≤ 1000000) :
    Calls Try.prog 10 #[.slice ao n cap] w (RoomMade w bs n) := by
  obtain ⟨i0, hi, hz0, hz1, hz2⟩ := info_parts Try.info5
  obtain ⟨Z, hZ⟩ : ∃ Z : Array Value, Z = (List.replicate (n + 64) (Value.int .u8 0)).toArray := ⟨_, rfl⟩
  have hmk : ∀ wx, (Instr.makeSlice 22 (.int .i64 0) (.int .i64 ((n : Int) + 64))).run Try.prog wx = .ok (.slice (some ⟨wx.heap.size, 0, none⟩) 0 (n + 64)) (wx.alloc (.cells Z 5)) := by
    intro wx
    have h := run_make (P := Try.prog) wx 22 5 i0 (.int .u8 0) Try.underlying22 hi hz0 .i64 .i64 0 ((n : Int) + 64) (by omega) (by omega) (by rw [hz2]; omega) (by omega)
    rw [h, hz1, hZ, show ((n : Int) + 64).toNat = n + 64 by omega]
    congr 4
    apply Array.toList_inj.1
    rw [Nat.mul_one]
    exact toList_madeCells_one _ _
  have hZs : Z.size = n + 64 := by rw [hZ]; simp
  have hZd : cells bs ++ Z.toList.drop n = cells bs ++ List.replicate 64 (Value.int .u8 0) := by rw [hZ]; simp
  have HS := Lib.hid hZs
  have HD := Lib.hid hZd
  have HR := Lib.hid hb
  clear hZ hZs hZd hb
  go_enter Try.func10, Try.ntmps10
  go_wp2_with (at_builtin; refine wpList_append_head rfl (.tmp 6) (.tmp 7) rfl w.heap.size (n + 64) Z rfl (heap_alloc_new w _) HS.out (by unfold maxLen; omega) ao n cap bs rfl hn (HR.out.alloc _) (by omega) ?_)
  intro w1 h1 g1
  have HB1 := Lib.hid (((Below.refl w.heap.size w).alloc (Nat.le_refl _) _).grown g1 (by simp) (fun k hk => by simp at hk; omega))
  rw [HD.out] at h1
  have H1 := Lib.hid h1
  clear h1 g1
  go_wp2
  go_ret
  exact ⟨w.heap.size, rfl, Nat.le_refl _, HB1.out, H1.out⟩

def Oct.KeptRel (n : Nat) (i : Value) : Prop := ∃ k : Nat, i = .int .i64 k ∧ n ≤ k ∧ k ≤ n + 64

set_option maxRecDepth 100000 in
set_option maxHeartbeats 1000000 in
theorem kept_any (w : World) (g : Nat) (ao : Option Addr) (cap n : Nat) (bs : List UInt8) (hg : RoomAt w g bs) (hb : Row w ao cap bs) (hn : bs.length = n) (hl : n ≤ 1000000) :
    Calls Try.prog 17 #[.slice (some ⟨g, 0, none⟩) n (n + 64), .slice ao n cap] w (Says w true) := by
  have v1 := run_strN (n := n) (hg.row (by omega)) hn
  have v2 := run_strN (n := n) hb hn
  rw [hn] at v1
  have hcut := run_cutH (some ⟨g, 0, none⟩) n (n + 64) (n + 64) (Nat.le_refl _)
  rw [show ((n + 64 : Nat) : Int) = (n : Int) + 64 by omega] at hcut
  have HG := Lib.hid hg
  have HN := Lib.hid hn
  clear hg hb hn
  go_enter Try.func17, Try.ntmps17
  go_wp2
  go_loop [6] (fun i => KeptRel n i) (fun i => n + 64 - (intOf i).toNat)
  case atStart => exact ⟨n, rfl, Nat.le_refl _, by omega⟩
  case round =>
    obtain ⟨k, rfl, h1, h2⟩ := hrel
    by_cases hlt : k < n + 64
    · have hc := HG.out.nought k (by rw [HN.out]; exact h1) (by rw [HN.out]; exact hlt)
      go_wp2
      go_round
      case rel => exact ⟨k + 1, by go_num, by omega, by omega⟩
      case measure => simp [intOf]; omega
    · go_wp2
      go_ret
      exact ⟨rfl, rfl⟩
end Go.Proofs.Ytjnafoiijcdpfaa
