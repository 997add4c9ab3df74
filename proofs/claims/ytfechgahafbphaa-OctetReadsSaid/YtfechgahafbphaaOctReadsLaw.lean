/-
  The walk of the statement OctetReads.
-/
import Derived.Test.YtfechgahafbphaaOctReadFns
import Derived.Test.YtfechgahafbphaaOctSteps
namespace Go.Proofs.Ytfechgahafbphaa
open Go.RowKit Oct

/-- Behind some rounds of the first loop: the slice's own bytes may be others, nothing else has turned. -/
def Oct.FlipRel (W0 : World) (ao1 : Option Addr) (c1 len : Nat) (i : Value) (wr : World) : Prop :=
  ∃ k : Nat, i = .int .i64 k ∧ k ≤ len ∧ W0.grownBy wr (Value.slice ao1 len c1).ownBlock ∧ (0 < len → ∃ g cur, ao1 = some ⟨g, 0, none⟩ ∧ wr.heap[g]? = some (.cells cur 5 (0, 0)) ∧ ∀ j, j < len → ∃ z, cur[j]? = some (.int .u8 z))
theorem Oct.flip_start {W0 : World} {B c1 len : Nat} {ao1 : Option Addr} {xs : List UInt8} (h : W0.ownsRow B 5 1 (.slice ao1 len c1) len (cells xs)) (hx : xs.length = len) :
    0 < len → ∃ g cur, ao1 = some ⟨g, 0, none⟩ ∧ W0.heap[g]? = some (.cells cur 5 (0, 0)) ∧ ∀ j, j < len → ∃ z, cur[j]? = some (.int .u8 z) := by
  intro h0
  rcases h.2 with ⟨_, h2⟩ | ⟨g, cap, cur, h1, h2, h3, h4, h5, h6, h7⟩
  · omega
  · simp only [Value.slice.injEq] at h1
    refine ⟨g, cur, h1.1, h3, fun j hj => ?_⟩
    have e : (cells xs)[j]? = some (.int .u8 ((xs[j]'(by omega)).toNat : Int)) := by simp [cells, show j < xs.length by omega]
    rw [← h7, List.getElem?_take] at e
    split at e
    · exact ⟨_, by simpa using e⟩
    · cases e
theorem Oct.flip_cell {wr : World} {g k : Nat} {cur : Array Value} {z : Int} {ty : TypeId} (h : wr.heap[g]? = some (.cells cur ty (0, 0))) (hz : cur[k]? = some (.int .u8 z)) :
    wr.cell? ⟨g, k, none⟩ = some (.int .u8 z) ∧ wr.frozen? ⟨g, k, none⟩ = false := by
  refine ⟨by simp [World.cell?, h, hz], by simp [World.frozen?, h]⟩
theorem Oct.flip_set {W0 wr : World} {g k len : Nat} {cur : Array Value} {z : Int} {ty : TypeId} (hg : W0.grownBy wr (some g)) (h : wr.heap[g]? = some (.cells cur ty (0, 0))) (hz : ∀ j, j < len → ∃ z, cur[j]? = some (.int .u8 z)) :
    W0.grownBy (wr.setCell ⟨g, k, none⟩ (.int .u8 z)) (some g) ∧ ∃ cur', (wr.setCell ⟨g, k, none⟩ (.int .u8 z)).heap[g]? = some (.cells cur' ty (0, 0)) ∧ ∀ j, j < len → ∃ z, cur'[j]? = some (.int .u8 z) := by
  refine ⟨grownBy_trans hg (grown_set wr g k _), cur.setIfInBounds k (.int .u8 z), by simp [World.setCell, Array.getElem?_modify, h], fun j hj => ?_⟩
  obtain ⟨y, hy⟩ := hz j hj
  by_cases e : k = j
  · subst e
    have := (Array.getElem?_eq_some_iff.1 hy).1
    exact ⟨z, by simp [this]⟩
  · exact ⟨y, by rw [Array.getElem?_setIfInBounds_ne e]; exact hy⟩

/-- Behind some steps: both readers are in one state. -/
def Oct.TwinRel (w : World) (B R : Nat) (vR : Value) (L Q : Nat) (ao : Option Addr) (cap len : Nat) (i : Value) (wr : World) : Prop :=
  ∃ (k : Nat) (s : St), k ≤ len ∧ i = .int .i64 k ∧ Rdr B wr R vR s ∧ Rf L wr Q ao cap s ∧ Below w.heap.size w wr
theorem Oct.twin_own {B : Nat} {w w' : World} {R L Q : Nat} {vR x : Value} {ao : Option Addr} {cap : Nat} {s s' : St} {e : Ending} (hf : Rf L w Q ao cap s) (hRQ : Q ≠ R) (hL : L ≤ R) (h : Turned B w R vR x s' e w') : Rf L w' Q ao cap s :=
  hf.kept h.2.2 (by simpa using hRQ) (fun k hk => by cases hk; exact hL)
theorem Oct.twin_ref {B : Nat} {w w' : World} {R L Q : Nat} {vR x : Value} {ao : Option Addr} {cap : Nat} {s s' : St} {e : Ending} (hr : Rdr B w R vR s) (hRQ : Q ≠ R) (hv : vR.ownBlock ≠ some Q) (h : RTurned L w Q ao cap x s' e w') : Rdr B w' R vR s :=
  hr.kept h.2.2 (by simpa using fun e => hRQ e.symm) (Or.inr hv)

theorem at_quiet (B : Nat) (w : World) (R : Nat) (v : Value) (s : St) (hr : Rdr B w R v s) (n : Nat) : Calls Try.prog 26 #[.pointer (some ⟨R, 0, none⟩)] (w.drewN n) fun e w'' => e = .returned (.int .i64 s.p) ∧ ∃ m, w'' = w.drewN m :=
  Calls.quiet_of_same ((at_any B _ R v s (hr.drewN n)).mono fun _ _ h => ⟨h.1, h.2.symm⟩)
theorem left_quiet (B : Nat) (w : World) (R : Nat) (v : Value) (s : St) (hr : Rdr B w R v s) (n : Nat) : Calls Try.prog 27 #[.pointer (some ⟨R, 0, none⟩)] (w.drewN n) fun e w'' => e = .returned (.int .i64 ((s.bs.length : Int) - s.p)) ∧ ∃ m, w'' = w.drewN m :=
  Calls.quiet_of (left_any B _ R v s (hr.drewN n))
theorem rleft_quiet (w : World) (L Q : Nat) (ao : Option Addr) (cap : Nat) (s : St) (hr : Rf L w Q ao cap s) (n : Nat) : Calls Try.prog 28 #[.pointer (some ⟨Q, 0, none⟩)] (w.drewN n) fun e w'' => e = .returned (.int .i64 ((s.bs.length : Int) - s.p)) ∧ ∃ m, w'' = w.drewN m :=
  Calls.quiet_of (rleft_any _ Q ao cap s (hr.drewN n))
theorem Oct.own_keptAll' {w w' : World} {B : Nat} {v : Value} {n : Nat} {xs : List Value} (h : w.ownsRow B 5 1 v n xs) (g : Below w.heap.size w w') : w'.ownsRow B 5 1 v n xs :=
  h.kept (Below.grownBy g none) (by cases v.ownBlock <;> simp)
theorem Oct.below_one' (w : World) (o : Obj) : Below w.heap.size w (w.alloc o) := (Below.refl _ _).alloc (Nat.le_refl _) _
set_option maxRecDepth 100000 in
set_option maxHeartbeats 40000000 in
theorem law_reads (ao : Option Addr) (cap : Nat) (bs : List UInt8) (lo : Option Addr) (lcap : Nat) (l : List Stp) (w : World) (hrow : Row w ao cap bs) (hl : StepRow w lo lcap l) (hlow : 0 < bs.length → ∀ a, ao = some a → a.block < w.heap.size) :
    Calls Try.prog 3 #[.slice ao bs.length cap, .slice lo l.length lcap] w fun e w' => e = .returned (.bool true) ∧ Below w.heap.size w w' := by
  by_cases hbig : 4096 < bs.length ∨ 100 < l.length
  · clear hrow hl
    have hb : (4096 < bs.length) ∨ (bs.length ≤ 4096 ∧ 100 < l.length) := by omega
    clear hbig hlow
    rcases hb with hb | ⟨hb1, hb2⟩
    all_goals
      go_enter Try.func3, Try.ntmps3
      go_wp2_with (go_at_call 15; refine (works_any _).mono ?_; rintro x w1 ⟨rfl, b1⟩)
      go_ret
      exact ⟨rfl, b1⟩
  · have hb1 : bs.length ≤ 4096 := by omega
    have hb2 : l.length ≤ 100 := by omega
    have HRow := Lib.hid hrow
    have HSteps := Lib.hid hl
    have HLOW := Lib.hid hlow
    clear hrow hl hbig hlow
    go_enter Try.func3, Try.ntmps3
    go_wp2_with (at_builtin; refine wpList_append_row rfl (.tmp 22) (.tmp 23) rfl w.heap.size (.slice (some ⟨w.heap.size, 0, none⟩) 0 0) 0 [] rfl (own_empty (w := w) (Nat.le_refl _)) ao bs.length cap bs rfl rfl (HRow.out.alloc _) (by omega) (by simp) ?_)
    intro x1 w1 own1 g1
    have b1 : Below w.heap.size w w1 := ((Below.refl _ _).alloc (Nat.le_refl _) _).grown g1 (by simp) (fun k hk => by simp [Value.ownBlock] at hk; omega)
    obtain ⟨ao1, c1, hx1⟩ := own_shape own1
    subst hx1
    have HO1 := Lib.hid own1
    have HB1 := Lib.hid b1
    clear own1 g1 b1
    go_wp2_with fail
    refine (newN_any _ ao1 c1 bs.length bs (Row.ofOwn HO1.out) rfl (by omega)).mono ?_
    rintro e w2 ⟨R, vR, rfl, hR, b2⟩
    have HQ := Lib.hid (heap_alloc_new w2 (.cells #[.slice ao bs.length cap, .int .i64 0, .int .i64 0, .int .i64 0] 30))
    have HB2 := Lib.hid ((HB1.out.trans (b2.mono HB1.out.size)).alloc (HB1.out.trans (b2.mono HB1.out.size)).size (.cells #[.slice ao bs.length cap, .int .i64 0, .int .i64 0, .int .i64 0] 30))
    have HD2 := Lib.hid (b2.alloc b2.size (.cells #[.slice ao bs.length cap, .int .i64 0, .int .i64 0, .int .i64 0] 30))
    have HO2 := Lib.hid (own_keptAll' HO1.out HD2.out)
    have HRd : Hid (Rdr w1.heap.size (w2.alloc (.cells #[.slice ao bs.length cap, .int .i64 0, .int .i64 0, .int .i64 0] 30)) R vR ⟨bs, 0, 0, 0⟩) := Lib.hid (hR.keptAll (below_one' _ _))
    have HRf : Hid (Rf w.heap.size (w2.alloc (.cells #[.slice ao bs.length cap, .int .i64 0, .int .i64 0, .int .i64 0] 30)) w2.heap.size ao cap ⟨bs, 0, 0, 0⟩) := Lib.hid ⟨Nat.zero_le _, by show bs.length ≤ _; omega, HQ.out, HRow.out.grown (Below.grownBy HB2.out none), HLOW.out, (HB1.out.trans (b2.mono HB1.out.size)).size⟩
    have HRQ : Hid (w2.heap.size ≠ R) := Lib.hid (by have := hR.lt; omega)
    have HLR : Hid (w.heap.size ≤ R) := Lib.hid (Nat.le_trans HB1.out.size hR.low)
    have HR1 : Hid (w1.heap.size ≤ R) := Lib.hid hR.low
    have HvQ : Hid (vR.ownBlock ≠ some w2.heap.size) := Lib.hid (fun e => by have := (hR.row.2.lt _ e).2; omega)
    have Hv1 : Hid (∀ g, (Value.slice ao1 bs.length c1).ownBlock = some g → w.heap.size ≤ g ∧ g < w1.heap.size) := Lib.hid (fun g hg => HO1.out.lt g hg)
    have Hv2 : Hid (∀ g, vR.ownBlock = some g → w1.heap.size ≤ g) := Lib.hid (fun g hg => (hR.row.2.lt g hg).1)
    have HS2 : Hid (w1.heap.size ≤ w2.heap.size) := Lib.hid b2.size
    clear hR b2
    unfold ptr
    go_wp2_with fail
    obtain ⟨W0, hW0⟩ : ∃ W0, W0 = w2.alloc (.cells #[.slice ao bs.length cap, .int .i64 0, .int .i64 0, .int .i64 0] 30) := ⟨_, rfl⟩
    rw [← hW0] at HQ HB2 HD2 HO2 HRd HRf ⊢
    clear hW0
    go_loopw [8] (fun i wr => FlipRel W0 ao1 c1 bs.length i wr) (fun i _ => bs.length - (intOf i).toNat)
    case atStart => exact ⟨0, rfl, Nat.zero_le _, grownBy_self _ _, flip_start HO2.out rfl⟩
    case round =>
      obtain ⟨k, rfl, hk, hgr, hcur⟩ := hrel
      by_cases hlt : k < bs.length
      · obtain ⟨g, cur, rfl, hg, hz⟩ := hcur (by omega)
        obtain ⟨z, hzk⟩ := hz k hlt
        obtain ⟨cc, cf⟩ := flip_cell hg hzk
        have HG := Lib.hid hg
        have HZ := Lib.hid hz
        have HGR := Lib.hid hgr
        clear hcur hg hz hzk hgr
        go_wp2_with fail
        go_roundw
        case rel =>
          obtain ⟨k1, cur', k2, k3⟩ := flip_set (k := k) (z := _) HGR.out HG.out HZ.out
          exact ⟨k + 1, by go_num, by omega, k1, fun _ => ⟨g, cur', rfl, k2, k3⟩⟩
        case measure => simp [intOf]; omega
      · obtain rfl : k = bs.length := by omega
        clear hlt hcur
        have HB3 : Hid (Below w.heap.size w wr) := Lib.hid (HB2.out.grown hgr HB2.out.size (fun g hg => (Hv1.out g hg).1))
        have HRd3 : Hid (Rdr w1.heap.size wr R vR ⟨bs, 0, 0, 0⟩) := Lib.hid (HRd.out.kept hgr (fun e => by have := (Hv1.out R e.symm).2; have := HR1.out; omega) (by
          cases hv : vR.ownBlock with
          | none => exact Or.inl rfl
          | some g => exact Or.inr (fun e => by have := (Hv1.out g e.symm).2; have := Hv2.out g hv; omega)))
        have HRf3 : Hid (Rf w.heap.size wr w2.heap.size ao cap ⟨bs, 0, 0, 0⟩) := Lib.hid (HRf.out.kept hgr (fun e => by have := (Hv1.out _ e.symm).2; have := HS2.out; omega) (fun g hg => (Hv1.out g hg).1))
        clear hgr HRd HRf HB2 HD2 HO2 HQ
        go_wp2_with fail
        go_loopw [9] (fun i wx => TwinRel w w1.heap.size R vR w.heap.size w2.heap.size ao cap l.length i wx) (fun i _ => l.length - (intOf i).toNat)
        case atStart => exact ⟨0, _, Nat.zero_le _, rfl, HRd3.out, HRf3.out, HB3.out⟩
        case round =>
          clear HRd3 HRf3 HB3
          obtain ⟨k, s, hk, rfl, hr, hf, hbel⟩ := hrel
          have HR := Lib.hid hr
          have HF := Lib.hid hf
          have HB := Lib.hid hbel
          clear hr hf hbel
          by_cases hlt : k < l.length
          case neg =>
            obtain rfl : k = l.length := by omega
            clear hlt
            go_wp2_with (go_at_call 15; refine (works_any _).mono ?_; rintro x w9 ⟨rfl, b9⟩)
            go_ret
            exact ⟨rfl, HB.out.trans (b9.mono HB.out.size)⟩
          case pos =>
            obtain ⟨b, off, hlo, c0, c1', c2, c3⟩ := (HSteps.out.below HB.out).place k hlt
            subst hlo
            have hbl : b < w.heap.size := by
              obtain ⟨b', off', h1, h2, _⟩ := HSteps.out.place k hlt
              cases h1
              exact World.block_lt_of_cell? w _ h2
            have HX := Lib.hid (fun (W : World) (hW : Below w.heap.size w W) => (HSteps.out.below hW).place k hlt)
            obtain ⟨d, hd⟩ : ∃ d, d = (l[k]).d := ⟨_, rfl⟩
            obtain ⟨n, hn⟩ : ∃ n, n = (l[k]).n := ⟨_, rfl⟩
            obtain ⟨q, hq⟩ : ∃ q, q = (l[k]).k := ⟨_, rfl⟩
            obtain ⟨ee, hee⟩ : ∃ ee, ee = (l[k]).e := ⟨_, rfl⟩
            rw [← hd] at c0
            rw [← hn] at c1'
            rw [← hq] at c2
            rw [← hee] at c3
            clear hd hn hq hee
            have k1' := (HB.out.cell (p := ⟨b, off + k * 4 + 1, none⟩) hbl).symm.trans c1'
            have k2' := (HB.out.cell (p := ⟨b, off + k * 4 + 2, none⟩) hbl).symm.trans c2
            have k3' := (HB.out.cell (p := ⟨b, off + k * 4 + 3, none⟩) hbl).symm.trans c3
            have K1 := Lib.hid (fun (W : World) (hW : Below w.heap.size w W) => (hW.cell (p := ⟨b, off + k * 4 + 1, none⟩) hbl).trans k1')
            have K2 := Lib.hid (fun (W : World) (hW : Below w.heap.size w W) => (hW.cell (p := ⟨b, off + k * 4 + 2, none⟩) hbl).trans k2')
            have K3 := Lib.hid (fun (W : World) (hW : Below w.heap.size w W) => (hW.cell (p := ⟨b, off + k * 4 + 3, none⟩) hbl).trans k3')
            obtain ⟨xn, sn, hxn⟩ : ∃ xn sn, s.number n = (xn, sn) := ⟨_, _, rfl⟩
            obtain ⟨xb, sb, hxb⟩ : ∃ xb sb, s.byte = (xb, sb) := ⟨_, _, rfl⟩
            obtain ⟨xm, sm, hxm⟩ : ∃ xm sm, s.name = (xm, sm) := ⟨_, _, rfl⟩
            obtain ⟨N, hN⟩ : ∃ N : ByteArray, N = ⟨xm.toArray⟩ := ⟨_, rfl⟩
            obtain ⟨sf, hsf⟩ : ∃ sf, s.fail q ee = sf := ⟨_, rfl⟩
            have CN := Lib.hid (fun (W : World) (h : Rdr w1.heap.size W R vR s) => (show Calls Try.prog 17 #[.pointer (some ⟨R, 0, none⟩), .int .u64 n] W (Turned w1.heap.size W R vR (.int .u64 xn) sn) from by have := number_any _ W R vR s h n; rw [hxn] at this; exact this))
            have CB := Lib.hid (fun (W : World) (h : Rdr w1.heap.size W R vR s) => (show Calls Try.prog 19 #[.pointer (some ⟨R, 0, none⟩)] W (Turned w1.heap.size W R vR (.int .u8 xb) sb) from by have := byte_any _ W R vR s h; rw [hxb] at this; exact this))
            have CM := Lib.hid (fun (W : World) (h : Rdr w1.heap.size W R vR s) => (show Calls Try.prog 21 #[.pointer (some ⟨R, 0, none⟩)] W (Turned w1.heap.size W R vR (.string N) sm) from by have := rname_any _ W R vR s h; rw [hxm] at this; rw [hN]; exact this))
            have CF := Lib.hid (fun (W : World) (h : Rdr w1.heap.size W R vR s) => (show Calls Try.prog 23 #[.pointer (some ⟨R, 0, none⟩), .int .i64 q, .int .i64 ee] W (Turned w1.heap.size W R vR (.tuple #[]) sf) from by have := fail_any _ W R vR s h q ee; rw [hsf] at this; exact this))
            have DN := Lib.hid (fun (W : World) (h : Rf w.heap.size W w2.heap.size ao cap s) => (show Calls Try.prog 18 #[.pointer (some ⟨w2.heap.size, 0, none⟩), .int .u64 n] W (RTurned w.heap.size W w2.heap.size ao cap (.int .u64 xn) sn) from by have := rnumber_any W w2.heap.size ao cap s h n; rw [hxn] at this; exact this))
            have DB := Lib.hid (fun (W : World) (h : Rf w.heap.size W w2.heap.size ao cap s) => (show Calls Try.prog 20 #[.pointer (some ⟨w2.heap.size, 0, none⟩)] W (RTurned w.heap.size W w2.heap.size ao cap (.int .u8 xb) sb) from by have := rbyte_any W w2.heap.size ao cap s h; rw [hxb] at this; exact this))
            have DM := Lib.hid (fun (W : World) (h : Rf w.heap.size W w2.heap.size ao cap s) => (show Calls Try.prog 22 #[.pointer (some ⟨w2.heap.size, 0, none⟩)] W (RTurned w.heap.size W w2.heap.size ao cap (.string N) sm) from by have := rrname_any W w2.heap.size ao cap s h; rw [hxm] at this; rw [hN]; exact this))
            have DF := Lib.hid (fun (W : World) (h : Rf w.heap.size W w2.heap.size ao cap s) => (show Calls Try.prog 24 #[.pointer (some ⟨w2.heap.size, 0, none⟩), .int .i64 q, .int .i64 ee] W (RTurned w.heap.size W w2.heap.size ao cap (.tuple #[]) sf) from by have := rfail_any W w2.heap.size ao cap s h q ee; rw [hsf] at this; exact this))
            clear hxn hxb hxm hN hsf k1' k2' k3' HSteps
            go_wp2_with fail
            · go_region_held3 (fun w' => w'.cell? ⟨b, off + k * 4 + 1, none⟩ = some (.int .u64 n)) (first | assumption | exact K1.out _ hb6 | exact K1.out _ hb5 | exact c1')
                (first
                  | (go_at_call 17; refine (CN.out _ HR.out.drew).mono ?_; rintro e w5 hT5; have hf5 := twin_own (HF.out.drewN 1) HRQ.out HLR.out hT5; obtain ⟨rfl, hr5, g5⟩ := hT5; have hb5 : Below w.heap.size w w5 := (below_drewN HB.out 1).trans (grownBy_below g5 (below_drewN HB.out 1).size HLR.out); have HR5 := Lib.hid hr5; have HF5 := Lib.hid hf5; have HB5 := Lib.hid hb5; clear hr5 hf5 g5; have c5 := K1.out _ hb5)
                  | (go_at_call 18; refine (DN.out _ HF5.out).mono ?_; rintro e w6 hT6; have hr6 := twin_ref HR5.out HRQ.out HvQ.out hT6; obtain ⟨rfl, hf6, g6⟩ := hT6; have hb6 : Below w.heap.size w w6 := HB5.out.trans (grownBy_below g6 HB5.out.size hf6.lq); have HR6 := Lib.hid hr6; have HF6 := Lib.hid hf6; have HB6 := Lib.hid hb6; clear hr6 hf6 g6; have c6 := K1.out _ hb6))
              go_wp2_with fail
              refine (bad_any _ _ R vR _ HR6.out).mono ?_
              rintro e w7 ⟨rfl, q7, hw7⟩
              have HR7 := Lib.hid (show Rdr w1.heap.size w7 R vR _ from hw7 ▸ HR6.out.drewN q7)
              have HF7 := Lib.hid (show Rf w.heap.size w7 w2.heap.size ao cap _ from hw7 ▸ HF6.out.drewN q7)
              have HB7 := Lib.hid (show Below w.heap.size w w7 from hw7 ▸ below_drewN HB6.out q7)
              clear hw7 HR6 HF6 HB6
              obtain ⟨d0, d1, d2, d3⟩ := four_cells' HF7.out.box
              go_wp2_with fail
              go_quiet (first
                | (go_at_call 26; exact at_quiet _ _ R vR _ HR7.out _)
                | (go_at_call 27; exact left_quiet _ _ R vR _ HR7.out _)
                | (go_at_call 28; exact rleft_quiet _ _ w2.heap.size ao cap _ HF7.out _))
              go_wp2_with fail
              go_roundw
              case rel => exact ⟨k + 1, sn, by omega, by go_num, HR7.out.drewN _, HF7.out.drewN _, below_drewN HB7.out _⟩
              case measure => simp [intOf]; omega
            · refine (CB.out _ HR.out).mono ?_
              rintro e w5 hT5
              have hf5 := twin_own HF.out HRQ.out HLR.out hT5
              obtain ⟨rfl, hr5, g5⟩ := hT5
              have hb5 : Below w.heap.size w w5 := HB.out.trans (grownBy_below g5 HB.out.size HLR.out)
              have HR5 := Lib.hid hr5
              have HF5 := Lib.hid hf5
              have HB5 := Lib.hid hb5
              clear hr5 hf5 g5
              go_wp2_with fail
              refine (DB.out _ HF5.out).mono ?_
              rintro e w6 hT6
              have hr6 := twin_ref HR5.out HRQ.out HvQ.out hT6
              obtain ⟨rfl, hf6, g6⟩ := hT6
              have hb6 : Below w.heap.size w w6 := HB5.out.trans (grownBy_below g6 HB5.out.size hf6.lq)
              have HR6 := Lib.hid hr6
              have HF6 := Lib.hid hf6
              have HB6 := Lib.hid hb6
              clear hr6 hf6 g6
              go_wp2_with fail
              refine (bad_any _ _ R vR _ HR6.out).mono ?_
              rintro e w7 ⟨rfl, q7, hw7⟩
              have HR7 := Lib.hid (show Rdr w1.heap.size w7 R vR _ from hw7 ▸ HR6.out.drewN q7)
              have HF7 := Lib.hid (show Rf w.heap.size w7 w2.heap.size ao cap _ from hw7 ▸ HF6.out.drewN q7)
              have HB7 := Lib.hid (show Below w.heap.size w w7 from hw7 ▸ below_drewN HB6.out q7)
              clear hw7 HR6 HF6 HB6
              obtain ⟨d0, d1, d2, d3⟩ := four_cells' HF7.out.box
              go_wp2_with fail
              go_quiet (first
                | (go_at_call 26; exact at_quiet _ _ R vR _ HR7.out _)
                | (go_at_call 27; exact left_quiet _ _ R vR _ HR7.out _)
                | (go_at_call 28; exact rleft_quiet _ _ w2.heap.size ao cap _ HF7.out _))
              go_wp2_with fail
              go_roundw
              case rel => exact ⟨k + 1, sb, by omega, by go_num, HR7.out.drewN _, HF7.out.drewN _, below_drewN HB7.out _⟩
              case measure => simp [intOf]; omega
            · refine (CM.out _ HR.out).mono ?_
              rintro e w5 hT5
              have hf5 := twin_own HF.out HRQ.out HLR.out hT5
              obtain ⟨rfl, hr5, g5⟩ := hT5
              have hb5 : Below w.heap.size w w5 := HB.out.trans (grownBy_below g5 HB.out.size HLR.out)
              have HR5 := Lib.hid hr5
              have HF5 := Lib.hid hf5
              have HB5 := Lib.hid hb5
              clear hr5 hf5 g5
              go_wp2_with fail
              refine (DM.out _ HF5.out).mono ?_
              rintro e w6 hT6
              have hr6 := twin_ref HR5.out HRQ.out HvQ.out hT6
              obtain ⟨rfl, hf6, g6⟩ := hT6
              have hb6 : Below w.heap.size w w6 := HB5.out.trans (grownBy_below g6 HB5.out.size hf6.lq)
              have HR6 := Lib.hid hr6
              have HF6 := Lib.hid hf6
              have HB6 := Lib.hid hb6
              clear hr6 hf6 g6
              go_wp2_with fail
              refine (bad_any _ _ R vR _ HR6.out).mono ?_
              rintro e w7 ⟨rfl, q7, hw7⟩
              have HR7 := Lib.hid (show Rdr w1.heap.size w7 R vR _ from hw7 ▸ HR6.out.drewN q7)
              have HF7 := Lib.hid (show Rf w.heap.size w7 w2.heap.size ao cap _ from hw7 ▸ HF6.out.drewN q7)
              have HB7 := Lib.hid (show Below w.heap.size w w7 from hw7 ▸ below_drewN HB6.out q7)
              clear hw7 HR6 HF6 HB6
              obtain ⟨d0, d1, d2, d3⟩ := four_cells' HF7.out.box
              go_wp2_with fail
              go_quiet (first
                | (go_at_call 26; exact at_quiet _ _ R vR _ HR7.out _)
                | (go_at_call 27; exact left_quiet _ _ R vR _ HR7.out _)
                | (go_at_call 28; exact rleft_quiet _ _ w2.heap.size ao cap _ HF7.out _))
              go_wp2_with fail
              go_roundw
              case rel => exact ⟨k + 1, sm, by omega, by go_num, HR7.out.drewN _, HF7.out.drewN _, below_drewN HB7.out _⟩
              case measure => simp [intOf]; omega
            · go_region_held3 (fun w' => w'.cell? ⟨b, off + k * 4 + 2, none⟩ = some (.int .i64 q) ∧ w'.cell? ⟨b, off + k * 4 + 3, none⟩ = some (.int .i64 ee)) (first | exact ⟨c2, c3⟩ | exact ⟨K2.out _ hb5, K3.out _ hb5⟩)
                (first
                  | (go_at_call 23; refine (CF.out _ HR.out.drew).mono ?_; rintro e w5 hT5; have hf5 := twin_own (HF.out.drewN 1) HRQ.out HLR.out hT5; obtain ⟨rfl, hr5, g5⟩ := hT5; have hb5 : Below w.heap.size w w5 := (below_drewN HB.out 1).trans (grownBy_below g5 (below_drewN HB.out 1).size HLR.out); have HR5 := Lib.hid hr5; have HF5 := Lib.hid hf5; have HB5 := Lib.hid hb5; clear hr5 hf5 g5))
              go_wp2_with fail
              go_region_held3 (fun w' => w'.cell? ⟨b, off + k * 4 + 2, none⟩ = some (.int .i64 q) ∧ w'.cell? ⟨b, off + k * 4 + 3, none⟩ = some (.int .i64 ee)) (first | exact ⟨K2.out _ hb6, K3.out _ hb6⟩ | exact ⟨K2.out _ hb5, K3.out _ hb5⟩ | exact ⟨K2.out _ (below_drewN hb5 1), K3.out _ (below_drewN hb5 1)⟩ | exact ⟨K2.out _ (below_drewN HB5.out 0), K3.out _ (below_drewN HB5.out 0)⟩)
                (first
                  | (go_at_call 24; refine (DF.out _ (HF5.out.drewN 1)).mono ?_; rintro e w6 hT6; have hr6 := twin_ref (HR5.out.drewN 1) HRQ.out HvQ.out hT6; obtain ⟨rfl, hf6, g6⟩ := hT6; have hb6 : Below w.heap.size w w6 := (below_drewN HB5.out 1).trans (grownBy_below g6 (below_drewN HB5.out 1).size hf6.lq); have HR6 := Lib.hid hr6; have HF6 := Lib.hid hf6; have HB6 := Lib.hid hb6; clear hr6 hf6 g6))
              go_wp2_with fail
              refine (bad_any _ _ R vR _ HR6.out).mono ?_
              rintro e w7 ⟨rfl, q7, hw7⟩
              have HR7 := Lib.hid (show Rdr w1.heap.size w7 R vR _ from hw7 ▸ HR6.out.drewN q7)
              have HF7 := Lib.hid (show Rf w.heap.size w7 w2.heap.size ao cap _ from hw7 ▸ HF6.out.drewN q7)
              have HB7 := Lib.hid (show Below w.heap.size w w7 from hw7 ▸ below_drewN HB6.out q7)
              clear hw7 HR6 HF6 HB6
              obtain ⟨d0, d1, d2, d3⟩ := four_cells' HF7.out.box
              go_wp2_with fail
              go_quiet (first
                | (go_at_call 26; exact at_quiet _ _ R vR _ HR7.out _)
                | (go_at_call 27; exact left_quiet _ _ R vR _ HR7.out _)
                | (go_at_call 28; exact rleft_quiet _ _ w2.heap.size ao cap _ HF7.out _))
              go_wp2_with fail
              go_roundw
              case rel => exact ⟨k + 1, sf, by omega, by go_num, HR7.out.drewN _, HF7.out.drewN _, below_drewN HB7.out _⟩
              case measure => simp [intOf]; omega
end Go.Proofs.Ytfechgahafbphaa
