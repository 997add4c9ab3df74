/-
  The walk of the statement OctetBack.
-/
import Derived.Test.YtjnafoiijcdpfaaOctReadsFn
namespace Go.Proofs.Ytjnafoiijcdpfaa
open Go.RowKit Oct

theorem Oct.Itm.enc_len {it : Itm} (h : it.n < 18446744073709551616) : it.enc.length ≤ 42 := by
  cases hn : it.named
  · rw [Itm.enc_plain hn]; have := enc_length_le h; omega
  · rw [Itm.enc_named hn, List.length_append]
    obtain ⟨_, h2⟩ := isName_le hn
    have := enc_length_le (n := it.s.data.toList.length) (by omega)
    omega
theorem Oct.encAll_len : ∀ (l : List Itm), (∀ it ∈ l, it.n < 18446744073709551616) → (encAll l).length ≤ 42 * l.length := by
  intro l
  induction l with
  | nil => intro _; simp [encAll]
  | cons it r ih =>
    intro h
    have h1 := Itm.enc_len (h it (by simp))
    have h2 := ih (fun x hx => h x (List.mem_cons_of_mem _ hx))
    have e : encAll (it :: r) = it.enc ++ encAll r := by simp [encAll]
    rw [e, List.length_append, List.length_cons]
    omega
theorem Oct.encAll_take {l : List Itm} {k : Nat} (hk : k < l.length) : encAll (l.take (k + 1)) = encAll (l.take k) ++ (l[k]).enc := by
  rw [List.take_succ_eq_append_getElem hk]
  unfold encAll
  rw [List.flatMap_append, List.flatMap_singleton]
theorem Oct.own_ne_rdr {w : World} {B B' T n : Nat} {v vT : Value} {xs : List Value} {s : St} (h : w.ownsRow B 5 1 v n xs) (hr : Rdr B' w T vT s) : v.ownBlock = none ∨ v.ownBlock ≠ some T := by
  rcases h.2 with ⟨rfl, _⟩ | ⟨g, cap, cur, rfl, _, hgg, _⟩
  · exact .inl rfl
  · refine .inr ?_
    simp only [Value.ownBlock, ne_eq, Option.some.injEq]
    rintro rfl
    have := hr.row.1
    rw [hgg] at this
    simp at this

/-- One more number of raw bytes: it is read, or none stands there. -/
theorem Oct.raw_step (raw : List UInt8) (p : Nat) (hp : p ≤ raw.length) :
    ((⟨raw, p, 0, 0⟩ : St).number 18446744073709551615 = (0, ⟨raw, p, p, 3⟩)) ∨
    ∃ n sz, n < 18446744073709551616 ∧ p + sz ≤ raw.length ∧ raw.take p ++ enc n = raw.take (p + sz) ∧ (⟨raw, p, 0, 0⟩ : St).number 18446744073709551615 = (n, ⟨raw, p + sz, 0, 0⟩) := by
  cases h : num (raw.drop p) with
  | mk n sz =>
    by_cases hs : sz = 0
    · left
      simp only [St.number, h]
      rw [if_neg (by simp), if_pos hs, stop_form _ _ rfl (by decide)]
    · right
      obtain ⟨h1, h2, h3⟩ := num_sound h hs
      rw [List.length_drop] at h1
      refine ⟨n, sz, h3, by omega, by rw [h2, List.take_add], ?_⟩
      simp only [St.number, h]
      rw [if_neg (by simp), if_neg hs, if_neg (by omega)]
      rfl

theorem Oct.own_past {w w3 : World} {B n k c : Nat} {v : Value} {xs : List Value} {o : Obj} (h : w.ownsRow B 5 1 v n xs) (g : (w.alloc o).grownBy w3 (Value.slice (some ⟨w.heap.size, 0, none⟩) k c).ownBlock) : w3.ownsRow B 5 1 v n xs := by
  refine (h.alloc o).kept g ?_
  cases hv : v.ownBlock with
  | none => exact .inl rfl
  | some j =>
    have := (h.lt j hv).2
    exact .inr (by simp [Value.ownBlock]; omega)

def Oct.BackRel (w : World) (l : List Itm) (b i : Value) (wr : World) : Prop :=
  ∃ k : Nat, i = .int .i64 k ∧ k ≤ l.length ∧ wr.ownsRow w.heap.size 5 1 b (encAll (l.take k)).length (cells (encAll (l.take k))) ∧ Below w.heap.size w wr
def Oct.RawRel (w : World) (B : Nat) (T : Nat) (vT : Value) (raw : List UInt8) (b i : Value) (wr : World) : Prop :=
  ∃ k p : Nat, i = .int .i64 k ∧ k ≤ raw.length ∧ p ≤ raw.length ∧ wr.ownsRow w.heap.size 5 1 b p (cells (raw.take p)) ∧ Rdr B wr T vT ⟨raw, p, 0, 0⟩ ∧ Below w.heap.size w wr

theorem Oct.Row.ofOwnN {w : World} {B : Nat} {ao : Option Addr} {cap n : Nat} {bs : List UInt8} (h : w.ownsRow B 5 1 (.slice ao n cap) n (cells bs)) (hn : bs.length = n) : Row w ao cap bs := by
  subst hn; exact Row.ofOwn h
theorem putN (w : World) (ao : Option Addr) (cap n : Nat) (bs : List UInt8) (N : Nat) (hn : bs.length = n) (hN : N < 18446744073709551616) (hb : Row w ao cap bs) (hs : n ≤ 1000000) :
    Calls Try.prog 11 #[.slice ao n cap, .int .u64 N] w (Made w (bs ++ enc N)) := by
  subst hn; exact put_any w ao cap bs N (enc_length_le hN) hb hs

set_option maxRecDepth 100000 in
set_option maxHeartbeats 16000000 in
theorem law_back (lo : Option Addr) (lcap : Nat) (l : List Itm) (to : Option Addr) (tcap : Nat) (tail : List UInt8) (ro : Option Addr) (rcap : Nat) (raw : List UInt8) (c : Nat) (w : World)
    (hl : ItemRow w lo lcap l) (ht : Row w to tcap tail) (hw : Row w ro rcap raw) (hls : ∀ it ∈ l, it.n < 18446744073709551616) (h1 : tail.length ≤ 140737488351232) (h2 : raw.length ≤ 140737488351232) (hc : c < 65536) :
    Calls Try.prog 5 #[.slice lo l.length lcap, .slice to tail.length tcap, .slice ro raw.length rcap, .int .u16 c] w fun e w' => e = .returned (.bool true) ∧ Below w.heap.size w w' := by
  by_cases hbig : 40 < l.length ∨ 4096 < tail.length + raw.length
  · clear hl ht hw hls
    have hb : (40 < l.length) ∨ (l.length ≤ 40 ∧ 4096 < tail.length + raw.length) := by omega
    clear hbig
    rcases hb with hb | ⟨hb1, hb2⟩
    all_goals
      go_enter Try.func5, Try.ntmps5
      go_wp2_with (go_at_call 9; refine (works_any _).mono ?_; rintro x w1 ⟨rfl, b1⟩)
      go_ret
      exact ⟨rfl, b1⟩
  · have hb1 : l.length ≤ 40 := by omega
    have hb2 : tail.length + raw.length ≤ 4096 := by omega
    have HL := Lib.hid hl
    have HT := Lib.hid ht
    have HW := Lib.hid hw
    have HS := Lib.hid hls
    clear hl ht hw hls hbig h1 h2
    go_enter Try.func5, Try.ntmps5
    go_wp2_with fail
    go_loopw [9, 10] (fun b i wr => BackRel w l b i wr) (fun _ i _ => l.length - (intOf i).toNat)
    case atStart => exact ⟨0, rfl, Nat.zero_le _, World.ownsRow_nil _ _ _ _, Below.refl _ _⟩
    case round =>
      obtain ⟨k, rfl, hk, hown, hbel⟩ := hrel
      by_cases hlt : k < l.length
      · obtain ⟨b, off, hlo, c0, c1, hn64⟩ := (HL.out.old hbel).place k hlt
        subst hlo
        obtain ⟨ao9, c9, h9⟩ := own_shape hown
        subst h9
        have hrow := Row.ofOwn hown
        have hel : (encAll (l.take k)).length ≤ 1700 := by
          have := encAll_len (l.take k) (fun it hi => HS.out it (List.mem_of_mem_take hi))
          rw [List.length_take] at this
          omega
        have htk := encAll_take hlt
        obtain ⟨A, hA⟩ : ∃ A, A = encAll (l.take k) := ⟨_, rfl⟩
        rw [← hA] at hown hrow hel htk ⊢
        obtain ⟨nm, hnm⟩ : ∃ nm, nm = (l[k]).named := ⟨_, rfl⟩
        obtain ⟨S, hS⟩ : ∃ S, S = (l[k]).s := ⟨_, rfl⟩
        obtain ⟨N, hN⟩ : ∃ N, N = (l[k]).n := ⟨_, rfl⟩
        rw [← hS] at c1
        rw [← hN] at c0 hn64
        have hname : ∀ w, Calls Try.prog 15 #[.string S] w (Says w nm) := fun w => by
          have h := name_free w S
          rw [hnm, Itm.named, ← hS]
          exact h
        have HM := Lib.hid hname
        cases nm
        · have hput := put_any wr ao9 c9 A N (enc_length_le hn64) hrow (by omega)
          rw [Itm.enc_plain hnm.symm, ← hN] at htk
          have HP := Lib.hid hput
          have HK := Lib.hid htk
          have HB := Lib.hid hbel
          clear hput htk hbel hown hrow hnm hS hN hname hA hn64
          go_wp2_with (first
            | (go_at_call 15; refine (HM.out _).mono ?_; rintro e w' ⟨rfl, rfl⟩)
            | (go_at_call 11; refine HP.out.mono ?_; rintro e w2 ⟨v2, rfl, own2, b2⟩))
          go_roundw
          case rel => exact ⟨k + 1, by go_num, by omega, by rw [HK.out]; exact own_mono own2 HB.out.size, HB.out.trans (b2.mono HB.out.size)⟩
          case measure => simp [intOf]; omega
        · have hnn : isName S.data.toList = true := by rw [hS]; exact hnm.symm
          have hput := putName_yes wr ao9 c9 A S hrow (by omega) (by have := (isName_le hnn).2; simp at this; omega) hnn
          rw [Itm.enc_named hnm.symm, ← hS, ← List.append_assoc] at htk
          rw [show S.size = S.data.toList.length by simp] at hput
          have HP := Lib.hid hput
          have HK := Lib.hid htk
          have HB := Lib.hid hbel
          clear hput htk hbel hown hrow hnm hS hN hname hA hn64 hnn
          go_wp2_with (first
            | (go_at_call 15; refine (HM.out _).mono ?_; rintro e w' ⟨rfl, rfl⟩)
            | (go_at_call 12; refine HP.out.mono ?_; rintro e w2 ⟨v2, rfl, own2, b2⟩))
          go_roundw
          case rel => exact ⟨k + 1, by go_num, by omega, by rw [HK.out]; exact own_mono own2 HB.out.size, HB.out.trans (b2.mono HB.out.size)⟩
          case measure => simp [intOf]; omega
      · obtain rfl : k = l.length := by omega
        clear hlt
        rw [List.take_length] at hown
        have hel := encAll_len l HS.out
        have hall := reads_all l HS.out [] tail
        have hcut := fun m => reads_cut l HS.out [] m
        obtain ⟨E, hE⟩ : ∃ E, E = encAll l := ⟨_, rfl⟩
        rw [← hE] at hown hel hall hcut
        obtain ⟨ao9, c9, h9⟩ := own_shape hown
        subst h9
        have HE := Lib.hid hown
        have HB := Lib.hid hbel
        have HA := Lib.hid hall
        have HC := Lib.hid hcut
        clear hown hbel hall hcut hE
        go_wp2_with (at_builtin; refine wpList_append_row rfl (.tmp 66) (.tmp 67) rfl wr.heap.size (.slice (some ⟨wr.heap.size, 0, none⟩) 0 0) 0 [] rfl (own_empty (w := wr) (Nat.le_refl _)) ao9 E.length c9 E rfl rfl ((Row.ofOwn HE.out).alloc _) (by omega) (by simp) ?_)
        intro x3 w3 own3 g3
        have D3 : Below wr.heap.size wr w3 := ((Below.refl _ _).alloc (Nat.le_refl _) _).grown g3 (by simp) (fun k hk => by simp [Value.ownBlock] at hk; omega)
        have HO3 := Lib.hid own3
        have HD3 := Lib.hid D3
        clear own3 g3 D3
        go_wp2_with (at_builtin; refine wpList_append_row rfl (.tmp 68) (.tmp 69) rfl wr.heap.size x3 E.length E rfl (by simpa using HO3.out) to tail.length tcap tail rfl rfl (HT.out.keptAll (HB.out.trans (HD3.out.mono HB.out.size))) (by omega) HD3.out.size ?_)
        intro x4 w4 own4 g4
        have D4 : Below wr.heap.size wr w4 := HD3.out.grown g4 HD3.out.size (fun k hk => (HO3.out.lt k hk).1)
        obtain ⟨ao4, c4, hx4⟩ := own_shape own4
        subst hx4
        have HO4 := Lib.hid own4
        have HD4 := Lib.hid D4
        clear own4 g4 D4
        go_wp2_with fail
        refine (newN_any _ ao4 c4 (E.length + tail.length) (E ++ tail) (Row.ofOwn (by rw [List.length_append]; exact HO4.out)) (by simp) (by omega)).mono ?_
        rintro e w5 ⟨R, vR, rfl, hR5, b5⟩
        have HR5 := Lib.hid hR5
        have HD5 := Lib.hid (HD4.out.trans (b5.mono HD4.out.size))
        have HBR := Lib.hid (Nat.le_trans HB.out.size HD4.out.size)
        clear hR5 b5
        unfold ptr
        go_wp2_with fail
        have hreads : Calls Try.prog 31 #[.pointer (some ⟨R, 0, none⟩), .slice lo l.length lcap] w5 (ReadsPost w4.heap.size w5 R vR (true, ⟨E ++ tail, E.length, 0, 0⟩)) := by
          have h := reads_any w w4.heap.size w5 R vR _ lo lcap l HL.out (HB.out.trans (HD5.out.mono HB.out.size)) HBR.out HR5.out (by omega)
          have e := HA.out
          simp only [List.nil_append, List.length_nil] at e
          rw [e] at h
          exact h
        refine hreads.mono ?_
        clear hreads
        rintro e w6 ⟨rfl, hR6, g6⟩
        have hleft : Calls Try.prog 29 #[.pointer (some ⟨R, 0, none⟩)] w6 (JustRead w6 (.int .i64 tail.length)) := by
          have h := left_any _ w6 R vR _ hR6
          rwa [show (((E ++ tail).length : Int) - E.length) = (tail.length : Int) by simp; omega] at h
        have HF := Lib.hid hleft
        have HR6 := Lib.hid hR6
        have HD6 := Lib.hid (HD5.out.trans (grownBy_below g6 HD5.out.size (Nat.le_trans HD4.out.size hR6.low)))
        clear hR6 g6 hleft
        obtain ⟨m, hm, hmod⟩ : ∃ m : Nat, (0 < E.length → m < E.length) ∧ (c : Int) % (E.length : Int) = (m : Int) := ⟨c % E.length, fun h => Nat.mod_lt _ h, by omega⟩
        have hlc := (Row.ofOwn HE.out).len
        by_cases hE0 : 0 < E.length
        · have hmE := hm hE0
          clear hm
          go_wp2_with (first
            | (go_at_call 28; refine (at_any _ _ R vR _ HR6.out).mono ?_; rintro e w' ⟨rfl, rfl⟩)
            | (go_at_call 29; refine HF.out.mono ?_; rintro e w' ⟨rfl, q7, rfl⟩))
          refine (newN_any _ ao9 c9 m (E.take m) ((((Row.ofOwn HE.out).keptAll HD6.out).drewN q7).take m) (by rw [List.length_take]; omega) (by omega)).mono ?_
          rintro e w8 ⟨S, vS, rfl, hS8, b8⟩
          have HS8 := Lib.hid hS8
          have HD8 := Lib.hid ((below_drewN HD6.out q7).trans (b8.mono (below_drewN HD6.out q7).size))
          clear hS8 b8
          unfold ptr
          go_wp2_with fail
          have hreads : Calls Try.prog 31 #[.pointer (some ⟨S, 0, none⟩), .slice lo l.length lcap] w8 (ReadsPost (w6.drewN q7).heap.size w8 S vS (false, (readsSt l ⟨E.take m, 0, 0, 0⟩).2)) := by
            have h := reads_any w (w6.drewN q7).heap.size w8 S vS _ lo lcap l HL.out (HB.out.trans (HD8.out.mono HB.out.size)) (Nat.le_trans HB.out.size (below_drewN HD6.out q7).size) HS8.out (by omega)
            have e := HC.out m hmE
            simp only [List.nil_append, List.length_nil] at e
            rw [← e]
            exact h
          refine hreads.mono ?_
          clear hreads
          rintro e w9 ⟨rfl, hS9, g9⟩
          have HD9 := Lib.hid (HD8.out.trans (grownBy_below g9 HD8.out.size (Nat.le_trans (below_drewN HD6.out q7).size hS9.low)))
          clear hS9 g9
          go_wp2_with fail
          refine (newN_any _ ro rcap raw.length raw (HW.out.keptAll (HB.out.trans (Below.mono HD9.out HB.out.size))) rfl (by omega)).mono ?_
          rintro e wt ⟨T, vT, rfl, hT, bT⟩
          have HTT := Lib.hid hT
          have HDT := Lib.hid (Below.trans HD9.out (bT.mono (Below.size HD9.out)))
          clear hT bT
          unfold ptr
          go_wp2_with fail
          go_loopw [16, 17] (fun b i wq => RawRel w w9.heap.size T vT raw b i wq) (fun _ i _ => raw.length - (intOf i).toNat)
          case atStart => exact ⟨0, 0, rfl, Nat.zero_le _, Nat.zero_le _, World.ownsRow_nil _ _ _ _, HTT.out, HB.out.trans (HDT.out.mono HB.out.size)⟩
          case round =>
            obtain ⟨k, p, rfl, hk, hp, hown, hr, hbel⟩ := hrel
            obtain ⟨aog, cg, hg⟩ := own_shape hown
            subst hg
            by_cases hlt : k < raw.length
            · rcases raw_step raw p hp with hst | ⟨n, sz, hn, hps, henc, hst⟩
              · have hnum : Calls Try.prog 19 #[.pointer (some ⟨T, 0, none⟩), .int .u64 18446744073709551615] wr (Turned w9.heap.size wr T vT (.int .u64 0) ⟨raw, p, p, 3⟩) := by
                  have h := number_any _ wr T vT _ hr 18446744073709551615
                  rw [hst] at h
                  exact h
                have HN := Lib.hid hnum
                have HO := Lib.hid hown
                have HQ := Lib.hid hbel
                have HT0 := Lib.hid hr
                clear hnum hown hbel hr hst
                go_wp2_with fail
                refine HN.out.mono ?_
                rintro e wu ⟨rfl, hu, gu⟩
                have HTX := Lib.hid hu
                have HGX := Lib.hid (Row.ofOwnN (HO.out.kept gu (own_ne_rdr HO.out HT0.out)) (by rw [List.length_take]; omega))
                have HBX := Lib.hid (HQ.out.trans (grownBy_below gu HQ.out.size (Nat.le_trans (Nat.le_trans HB.out.size (Below.size HD9.out)) hu.low)))
                have HRX := Lib.hid (HW.out.keptAll HBX.out)
                clear hu gu
                go_wp2_with (go_at_call 27; refine (bad_any _ _ T vT _ HTX.out).mono ?_; rintro e w' ⟨rfl, q9, rfl⟩)
                have HTZ := Lib.hid (HTX.out.drewN q9)
                have HGZ := Lib.hid (HGX.out.drewN q9)
                have HBZ := Lib.hid (below_drewN HBX.out q9)
                have HRZ := Lib.hid (HRX.out.drewN q9)
                have cg1 := run_strN (n := p) (HGZ.out.drew) (by rw [List.length_take]; omega)
                obtain ⟨G, hG⟩ : ∃ G, G = raw.take p := ⟨_, rfl⟩
                have hcut := run_cutH ro raw.length rcap p (Nat.le_trans hp HRZ.out.len)
                have cr1 := run_strN (n := p) ((HRZ.out.take p).drew) (by rw [List.length_take]; omega)
                have HGL := Lib.hid (show (raw.take p).length = p by rw [List.length_take]; omega)
                have HG := Lib.hid hG
                rw [← hG] at cg1 cr1
                clear hG
                have hnp : ((p : Int) < 0) = False := by simp
                have hnq : (raw.length < p) = False := by simp; omega
                have hnr : ((raw.length : Int) < (p : Int)) = False := by simp; omega
                go_region_held3 (fun w' => (convert 22 9 (.slice aog p cg)).run Try.prog w' = .ok (.string ⟨G.toArray⟩) w' ∧ (convert 22 9 (.slice ro p rcap)).run Try.prog w' = .ok (.string ⟨G.toArray⟩) w') (first | exact ⟨cg1, cr1⟩ | exact ⟨cg2, cr2⟩)
                  (first
                    | (go_at_call 28; refine (at_any _ _ T vT _ HTZ.out.drew).mono ?_; rintro e w' ⟨rfl, rfl⟩)
                    | (go_at_call 9; refine (works_any _).mono ?_; rintro e w10 ⟨rfl, b10⟩; have cg2 := run_strN (n := p) ((HGZ.out.drew).keptAll b10) HGL.out; have cr2 := run_strN (n := p) (((HRZ.out.take p).drew).keptAll b10) HGL.out; rw [← HG.out] at cg2 cr2; have HB10 := Lib.hid b10; clear b10))
                go_wp2
                go_ret
                exact ⟨rfl, HBZ.out.drew.trans (HB10.out.mono HBZ.out.size)⟩
              · have hnum : Calls Try.prog 19 #[.pointer (some ⟨T, 0, none⟩), .int .u64 18446744073709551615] wr (Turned w9.heap.size wr T vT (.int .u64 n) ⟨raw, p + sz, 0, 0⟩) := by
                  have h := number_any _ wr T vT _ hr 18446744073709551615
                  rw [hst] at h
                  exact h
                have HN := Lib.hid hnum
                have HO := Lib.hid hown
                have HQ := Lib.hid hbel
                have HT0 := Lib.hid hr
                have HNN := Lib.hid hn
                have HEN := Lib.hid henc
                clear hnum hown hbel hr hst hn henc
                go_wp2_with fail
                refine HN.out.mono ?_
                rintro e wu ⟨rfl, hu, gu⟩
                have HTX := Lib.hid hu
                have HGX := Lib.hid (Row.ofOwnN (HO.out.kept gu (own_ne_rdr HO.out HT0.out)) (by rw [List.length_take]; omega))
                have HBX := Lib.hid (HQ.out.trans (grownBy_below gu HQ.out.size (Nat.le_trans (Nat.le_trans HB.out.size (Below.size HD9.out)) hu.low)))
                clear hu gu
                go_wp2_with (go_at_call 27; refine (bad_any _ _ T vT _ HTX.out).mono ?_; rintro e w' ⟨rfl, q9, rfl⟩)
                refine (putN _ aog cg p (raw.take p) n (by rw [List.length_take]; omega) HNN.out (HGX.out.drewN q9) (by omega)).mono ?_
                rintro e wv ⟨vv, rfl, ownv, bv⟩
                rw [HEN.out] at ownv
                have HOV := Lib.hid (own_mono ownv (below_drewN HBX.out q9).size)
                have HTV := Lib.hid ((HTX.out.drewN q9).keptAll bv)
                have HBV := Lib.hid ((below_drewN HBX.out q9).trans (bv.mono (below_drewN HBX.out q9).size))
                clear ownv bv
                go_wp2_with fail
                go_roundw
                case rel => exact ⟨k + 1, p + sz, by go_num, by omega, hps, by have h := HOV.out; rwa [List.length_take, Nat.min_eq_left hps] at h, HTV.out, HBV.out⟩
                case measure => simp [intOf]; omega
            · have HTZ := Lib.hid hr
              have HGZ := Lib.hid (Row.ofOwnN hown (by rw [List.length_take]; omega))
              have HBZ := Lib.hid hbel
              have HRZ := Lib.hid (HW.out.keptAll hbel)
              clear hr hown hbel
              go_wp2_with fail
              have cg1 := run_strN (n := p) (HGZ.out.drew) (by rw [List.length_take]; omega)
              obtain ⟨G, hG⟩ : ∃ G, G = raw.take p := ⟨_, rfl⟩
              have hcut := run_cutH ro raw.length rcap p (Nat.le_trans hp HRZ.out.len)
              have cr1 := run_strN (n := p) ((HRZ.out.take p).drew) (by rw [List.length_take]; omega)
              have HGL := Lib.hid (show (raw.take p).length = p by rw [List.length_take]; omega)
              have HG := Lib.hid hG
              rw [← hG] at cg1 cr1
              clear hG
              have hnp : ((p : Int) < 0) = False := by simp
              have hnq : (raw.length < p) = False := by simp; omega
              have hnr : ((raw.length : Int) < (p : Int)) = False := by simp; omega
              go_region_held3 (fun w' => (convert 22 9 (.slice aog p cg)).run Try.prog w' = .ok (.string ⟨G.toArray⟩) w' ∧ (convert 22 9 (.slice ro p rcap)).run Try.prog w' = .ok (.string ⟨G.toArray⟩) w') (first | exact ⟨cg1, cr1⟩ | exact ⟨cg2, cr2⟩)
                (first
                  | (go_at_call 28; refine (at_any _ _ T vT _ HTZ.out.drew).mono ?_; rintro e w' ⟨rfl, rfl⟩)
                  | (go_at_call 9; refine (works_any _).mono ?_; rintro e w10 ⟨rfl, b10⟩; have cg2 := run_strN (n := p) ((HGZ.out.drew).keptAll b10) HGL.out; have cr2 := run_strN (n := p) (((HRZ.out.take p).drew).keptAll b10) HGL.out; rw [← HG.out] at cg2 cr2; have HB10 := Lib.hid b10; clear b10))
              go_wp2
              go_ret
              exact ⟨rfl, HBZ.out.drew.trans (HB10.out.mono HBZ.out.size)⟩
        · go_wp2_with (first
            | (go_at_call 28; refine (at_any _ _ R vR _ HR6.out).mono ?_; rintro e w' ⟨rfl, rfl⟩)
            | (go_at_call 29; refine HF.out.mono ?_; rintro e w' ⟨rfl, q7, rfl⟩))
          refine (newN_any _ ro rcap raw.length raw (HW.out.keptAll (HB.out.trans (Below.mono (below_drewN HD6.out q7) HB.out.size))) rfl (by omega)).mono ?_
          rintro e wt ⟨T, vT, rfl, hT, bT⟩
          have HTT := Lib.hid hT
          have HDT := Lib.hid (Below.trans (below_drewN HD6.out q7) (bT.mono (Below.size (below_drewN HD6.out q7))))
          clear hT bT
          unfold ptr
          go_wp2_with fail
          go_loopw [16, 17] (fun b i wq => RawRel w (w6.drewN q7).heap.size T vT raw b i wq) (fun _ i _ => raw.length - (intOf i).toNat)
          case atStart => exact ⟨0, 0, rfl, Nat.zero_le _, Nat.zero_le _, World.ownsRow_nil _ _ _ _, HTT.out, HB.out.trans (HDT.out.mono HB.out.size)⟩
          case round =>
            obtain ⟨k, p, rfl, hk, hp, hown, hr, hbel⟩ := hrel
            obtain ⟨aog, cg, hg⟩ := own_shape hown
            subst hg
            by_cases hlt : k < raw.length
            · rcases raw_step raw p hp with hst | ⟨n, sz, hn, hps, henc, hst⟩
              · have hnum : Calls Try.prog 19 #[.pointer (some ⟨T, 0, none⟩), .int .u64 18446744073709551615] wr (Turned (w6.drewN q7).heap.size wr T vT (.int .u64 0) ⟨raw, p, p, 3⟩) := by
                  have h := number_any _ wr T vT _ hr 18446744073709551615
                  rw [hst] at h
                  exact h
                have HN := Lib.hid hnum
                have HO := Lib.hid hown
                have HQ := Lib.hid hbel
                have HT0 := Lib.hid hr
                clear hnum hown hbel hr hst
                go_wp2_with fail
                refine HN.out.mono ?_
                rintro e wu ⟨rfl, hu, gu⟩
                have HTX := Lib.hid hu
                have HGX := Lib.hid (Row.ofOwnN (HO.out.kept gu (own_ne_rdr HO.out HT0.out)) (by rw [List.length_take]; omega))
                have HBX := Lib.hid (HQ.out.trans (grownBy_below gu HQ.out.size (Nat.le_trans (Nat.le_trans HB.out.size (Below.size (below_drewN HD6.out q7))) hu.low)))
                have HRX := Lib.hid (HW.out.keptAll HBX.out)
                clear hu gu
                go_wp2_with (go_at_call 27; refine (bad_any _ _ T vT _ HTX.out).mono ?_; rintro e w' ⟨rfl, q9, rfl⟩)
                have HTZ := Lib.hid (HTX.out.drewN q9)
                have HGZ := Lib.hid (HGX.out.drewN q9)
                have HBZ := Lib.hid (below_drewN HBX.out q9)
                have HRZ := Lib.hid (HRX.out.drewN q9)
                have cg1 := run_strN (n := p) (HGZ.out.drew) (by rw [List.length_take]; omega)
                obtain ⟨G, hG⟩ : ∃ G, G = raw.take p := ⟨_, rfl⟩
                have hcut := run_cutH ro raw.length rcap p (Nat.le_trans hp HRZ.out.len)
                have cr1 := run_strN (n := p) ((HRZ.out.take p).drew) (by rw [List.length_take]; omega)
                have HGL := Lib.hid (show (raw.take p).length = p by rw [List.length_take]; omega)
                have HG := Lib.hid hG
                rw [← hG] at cg1 cr1
                clear hG
                have hnp : ((p : Int) < 0) = False := by simp
                have hnq : (raw.length < p) = False := by simp; omega
                have hnr : ((raw.length : Int) < (p : Int)) = False := by simp; omega
                go_region_held3 (fun w' => (convert 22 9 (.slice aog p cg)).run Try.prog w' = .ok (.string ⟨G.toArray⟩) w' ∧ (convert 22 9 (.slice ro p rcap)).run Try.prog w' = .ok (.string ⟨G.toArray⟩) w') (first | exact ⟨cg1, cr1⟩ | exact ⟨cg2, cr2⟩)
                  (first
                    | (go_at_call 28; refine (at_any _ _ T vT _ HTZ.out.drew).mono ?_; rintro e w' ⟨rfl, rfl⟩)
                    | (go_at_call 9; refine (works_any _).mono ?_; rintro e w10 ⟨rfl, b10⟩; have cg2 := run_strN (n := p) ((HGZ.out.drew).keptAll b10) HGL.out; have cr2 := run_strN (n := p) (((HRZ.out.take p).drew).keptAll b10) HGL.out; rw [← HG.out] at cg2 cr2; have HB10 := Lib.hid b10; clear b10))
                go_wp2
                go_ret
                exact ⟨rfl, HBZ.out.drew.trans (HB10.out.mono HBZ.out.size)⟩
              · have hnum : Calls Try.prog 19 #[.pointer (some ⟨T, 0, none⟩), .int .u64 18446744073709551615] wr (Turned (w6.drewN q7).heap.size wr T vT (.int .u64 n) ⟨raw, p + sz, 0, 0⟩) := by
                  have h := number_any _ wr T vT _ hr 18446744073709551615
                  rw [hst] at h
                  exact h
                have HN := Lib.hid hnum
                have HO := Lib.hid hown
                have HQ := Lib.hid hbel
                have HT0 := Lib.hid hr
                have HNN := Lib.hid hn
                have HEN := Lib.hid henc
                clear hnum hown hbel hr hst hn henc
                go_wp2_with fail
                refine HN.out.mono ?_
                rintro e wu ⟨rfl, hu, gu⟩
                have HTX := Lib.hid hu
                have HGX := Lib.hid (Row.ofOwnN (HO.out.kept gu (own_ne_rdr HO.out HT0.out)) (by rw [List.length_take]; omega))
                have HBX := Lib.hid (HQ.out.trans (grownBy_below gu HQ.out.size (Nat.le_trans (Nat.le_trans HB.out.size (Below.size (below_drewN HD6.out q7))) hu.low)))
                clear hu gu
                go_wp2_with (go_at_call 27; refine (bad_any _ _ T vT _ HTX.out).mono ?_; rintro e w' ⟨rfl, q9, rfl⟩)
                refine (putN _ aog cg p (raw.take p) n (by rw [List.length_take]; omega) HNN.out (HGX.out.drewN q9) (by omega)).mono ?_
                rintro e wv ⟨vv, rfl, ownv, bv⟩
                rw [HEN.out] at ownv
                have HOV := Lib.hid (own_mono ownv (below_drewN HBX.out q9).size)
                have HTV := Lib.hid ((HTX.out.drewN q9).keptAll bv)
                have HBV := Lib.hid ((below_drewN HBX.out q9).trans (bv.mono (below_drewN HBX.out q9).size))
                clear ownv bv
                go_wp2_with fail
                go_roundw
                case rel => exact ⟨k + 1, p + sz, by go_num, by omega, hps, by have h := HOV.out; rwa [List.length_take, Nat.min_eq_left hps] at h, HTV.out, HBV.out⟩
                case measure => simp [intOf]; omega
            · have HTZ := Lib.hid hr
              have HGZ := Lib.hid (Row.ofOwnN hown (by rw [List.length_take]; omega))
              have HBZ := Lib.hid hbel
              have HRZ := Lib.hid (HW.out.keptAll hbel)
              clear hr hown hbel
              go_wp2_with fail
              have cg1 := run_strN (n := p) (HGZ.out.drew) (by rw [List.length_take]; omega)
              obtain ⟨G, hG⟩ : ∃ G, G = raw.take p := ⟨_, rfl⟩
              have hcut := run_cutH ro raw.length rcap p (Nat.le_trans hp HRZ.out.len)
              have cr1 := run_strN (n := p) ((HRZ.out.take p).drew) (by rw [List.length_take]; omega)
              have HGL := Lib.hid (show (raw.take p).length = p by rw [List.length_take]; omega)
              have HG := Lib.hid hG
              rw [← hG] at cg1 cr1
              clear hG
              have hnp : ((p : Int) < 0) = False := by simp
              have hnq : (raw.length < p) = False := by simp; omega
              have hnr : ((raw.length : Int) < (p : Int)) = False := by simp; omega
              go_region_held3 (fun w' => (convert 22 9 (.slice aog p cg)).run Try.prog w' = .ok (.string ⟨G.toArray⟩) w' ∧ (convert 22 9 (.slice ro p rcap)).run Try.prog w' = .ok (.string ⟨G.toArray⟩) w') (first | exact ⟨cg1, cr1⟩ | exact ⟨cg2, cr2⟩)
                (first
                  | (go_at_call 28; refine (at_any _ _ T vT _ HTZ.out.drew).mono ?_; rintro e w' ⟨rfl, rfl⟩)
                  | (go_at_call 9; refine (works_any _).mono ?_; rintro e w10 ⟨rfl, b10⟩; have cg2 := run_strN (n := p) ((HGZ.out.drew).keptAll b10) HGL.out; have cr2 := run_strN (n := p) (((HRZ.out.take p).drew).keptAll b10) HGL.out; rw [← HG.out] at cg2 cr2; have HB10 := Lib.hid b10; clear b10))
              go_wp2
              go_ret
              exact ⟨rfl, HBZ.out.drew.trans (HB10.out.mono HBZ.out.size)⟩
end Go.Proofs.Ytjnafoiijcdpfaa
