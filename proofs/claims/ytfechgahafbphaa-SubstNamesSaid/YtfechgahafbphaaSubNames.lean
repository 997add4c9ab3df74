/-
  battenlaw04.SubstNames: the walk.
-/
import Derived.Test.YtfechgahafbphaaSubPutMath
import Derived.Test.YtfechgahafbphaaSubInstFn
import Derived.Test.YtfechgahafbphaaSubSmall
import Derived.Test.YtfechgahafbphaaSubWorks
import Derived.Test.YtfechgahafbphaaSubZero
import Derived.Deep.DeepCutAuto
namespace Go.Proofs.Ytfechgahafbphaa
open Go.RowKit Go.Shelf Lvl Trm

/-- A variable that a drawn region makes and fills: its block, and the term in it. -/
def Trm.CutN (wc : World) (o : Tm) (p e : Value) (wx : World) : Prop :=
  ∃ X h, p = .pointer (some ⟨X, 0, none⟩) ∧ e = .int .i64 0 ∧ wx.heap[X]? = some (o.box h) ∧ o.In wx.heap.size wx h ∧ Below wc.heap.size wc wx
theorem Trm.cut_late {wq wi : World} {o : Tm} {h : Hd} (hb : Below wq.heap.size wq wi) (hi : o.In wi.heap.size wi h) : CutN wq o (.pointer (some ⟨wi.heap.size, 0, none⟩)) (.int .i64 0) (wi.alloc (o.box h)) :=
  ⟨wi.heap.size, h, rfl, rfl, World.alloc_heap_new wi (o.box h), carry hi (below_one _ _), Trm.go hb (below_one _ _)⟩
theorem Trm.cut_early {wq wi : World} {o : Tm} {h : Hd} {X : Nat} (hx : wi.heap[X]? = some (.cells #[.int .u8 0, .int .i64 0, .string no, .slice none 0 0, .slice none 0 0] 60)) (hX : wq.heap.size ≤ X) (hm : o.may = true) (hb : Below wq.heap.size wq wi) (hi : o.In wi.heap.size wi h) : CutN wq o (.pointer (some ⟨X, 0, none⟩)) (.int .i64 0) (putT wi X (.int .u8 o.k) (.int .i64 o.n) (.string o.s) (.slice h.lo o.ls.length h.lc) (.slice h.to o.ts.length h.tc)) :=
  ⟨X, h, rfl, rfl, putT_self hx _ _ _ _ _, Tm.In.mono (putT_ran wi X (.int .u8 o.k) (.int .i64 o.n) (.string o.s) (.slice h.lo o.ls.length h.lc) (.slice h.to o.ts.length h.tc)).size _ _ (zero_firm hx (Nat.le_refl _) (putT_ran wi X (.int .u8 o.k) (.int .i64 o.n) (.string o.s) (.slice h.lo o.ls.length h.lc) (.slice h.to o.ts.length h.tc)) o h 1 (OkMay.start hm) hi), putT_below hb hX _ _ _ _ _⟩

theorem Trm.inst_made {t o : Tm} {l : List Tm} (h : instAns t l = (o, 0)) : o.may = true := by
  unfold instAns at h
  split at h
  · split at h
    · rename_i hm
      cases h
      exact hm
    · injection h with _ h2
      cases h2
  · injection h with _ h2
    cases h2

set_option maxRecDepth 100000 in
set_option maxHeartbeats 80000000 in
theorem law_subst_names (t u : Tm) (ht hu : Hd) (w : World) (hin : t.In w.heap.size w ht) (hin2 : u.In w.heap.size w hu) :
    Calls Try.prog 13 #[t.val ht, u.val hu] w fun e w' => e = .returned (.bool true) ∧ Below w.heap.size w w' := by
  have HIN := Lib.hid hin
  have HIN2 := Lib.hid hin2
  have HF := Lib.hid (fun (W : World) (g : Nat) (hW : Below w.heap.size w W) (hg : W.heap[g]? = some (.cells #[.int .u8 t.k, .int .i64 t.n, .string t.s, .slice ht.lo t.ls.length ht.lc, .slice ht.to t.ts.length ht.tc, .int .u8 u.k, .int .i64 u.n, .string u.s, .slice hu.lo u.ls.length hu.lc, .slice hu.to u.ts.length hu.tc] 60)) => small_any [t, u] (some ⟨g, 0, none⟩) 2 W (row_two hg (carry hin hW) (carry hin2 hW)) (by simp))
  have HFR := Lib.hid (fun (W : World) (hm : t.may = true) (hW : Below w.heap.size w W) => RefFree_any t ht W hm (carry hin hW))
  have HFU := Lib.hid (fun (W : World) (hm : u.may = true) (hW : Below w.heap.size w W) => RefFree_any u hu W hm (carry hin2 hW))
  have HZU := Lib.hid (fun (W : World) (hm : u.size ≤ 30) (hW : Below w.heap.size w W) => Size_any u hu W (by omega) (carry hin2 hW))
  clear hin hin2
  unfold Tm.val at HFR HFU HZU ⊢
  dsimp only [Tm.vals] at HFR HFU HZU ⊢
  obtain ⟨F, hFe⟩ : ∃ F, [t, u].all smallT = F := ⟨_, rfl⟩
  rw [hFe] at HF
  have b2 := below_two w (.cells (t.vals ht) 60) (.cells (u.vals hu) 60)
  have b3 := below_one ((w.alloc (.cells (t.vals ht) 60)).alloc (.cells (u.vals hu) 60)) (.cells #[.int .u8 t.k, .int .i64 t.n, .string t.s, .slice ht.lo t.ls.length ht.lc, .slice ht.to t.ts.length ht.tc, .int .u8 u.k, .int .i64 u.n, .string u.s, .slice hu.lo u.ls.length hu.lc, .slice hu.to u.ts.length hu.tc] 60)
  have HB_0 := Lib.hid (Trm.go b2 b3)
  have XT_0 := Lib.hid (Lvl.keep b3 (new1of2 w (.cells (t.vals ht) 60) (.cells (u.vals hu) 60)))
  have XU_0 := Lib.hid (Lvl.keep b3 (new2 w (.cells (t.vals ht) 60) (.cells (u.vals hu) 60)))
  have XS_0 := Lib.hid (World.alloc_heap_new ((w.alloc (.cells (t.vals ht) 60)).alloc (.cells (u.vals hu) 60)) (.cells #[.int .u8 t.k, .int .i64 t.n, .string t.s, .slice ht.lo t.ls.length ht.lc, .slice ht.to t.ts.length ht.tc, .int .u8 u.k, .int .i64 u.n, .string u.s, .slice hu.lo u.ls.length hu.lc, .slice hu.to u.ts.length hu.tc] 60))
  have hg3 : ((w.alloc (.cells (t.vals ht) 60)).alloc (.cells (u.vals hu) 60)).heap.size = w.heap.size + 1 + 1 := by simp
  rw [hg3] at XS_0
  clear b2 b3 hg3
  have HFE := Lib.hid hFe
  clear hFe
  go_enter Try.func13, Try.ntmps13
  go_wp2_with fail
  refine (HF.out _ _ HB_0.out XS_0.out).mono ?_
  rintro e v1 ⟨rfl, b1⟩
  have HB_1 := Lib.hid (Trm.go HB_0.out b1)
  have XT_1 := Lib.hid (Lvl.keep b1 XT_0.out)
  have XU_1 := Lib.hid (Lvl.keep b1 XU_0.out)
  clear b1
  clear HB_0 XT_0 XU_0
  clear XS_0
  obtain ⟨cT0, cT1, cT2, cT3, cT4⟩ := five_cells (show v1.heap[w.heap.size]? = some (.cells #[.int .u8 t.k, .int .i64 t.n, .string t.s, .slice ht.lo t.ls.length ht.lc, .slice ht.to t.ts.length ht.tc] 60) from XT_1.out)
  have lT : w.heap.size < v1.heap.size := (Array.getElem?_eq_some_iff.1 XT_1.out).1
  obtain ⟨cU0, cU1, cU2, cU3, cU4⟩ := five_cells (show v1.heap[w.heap.size + 1]? = some (.cells #[.int .u8 u.k, .int .i64 u.n, .string u.s, .slice hu.lo u.ls.length hu.lc, .slice hu.to u.ts.length hu.tc] 60) from XU_1.out)
  have lU : w.heap.size + 1 < v1.heap.size := (Array.getElem?_eq_some_iff.1 XU_1.out).1
  cases F
  · go_wp2_with fail
    refine (sub_works_any _).mono ?_
    rintro e v2 ⟨rfl, b2⟩
    clear cT0 cT1 cT2 cT3 cT4 cU0 cU1 cU2 cU3 cU4 lT lU
    have HB_2 := Lib.hid (Trm.go HB_1.out b2)
    have XT_2 := Lib.hid (Lvl.keep b2 XT_1.out)
    have XU_2 := Lib.hid (Lvl.keep b2 XU_1.out)
    clear b2
    clear HB_1 XT_1 XU_1
    go_wp2_with fail
    go_ret
    exact ⟨rfl, HB_2.out⟩
  · obtain ⟨⟨mt, zt, ft⟩, mu, zu, fu⟩ := smalls2 HFE.out
    obtain ⟨a, up, nm, b, x, qA1, qL, qA3, qA4, qA5, qA6, qfx, qsz, mx, mup⟩ := names_facts mt mu zt zu ft fu
    obtain ⟨o, ho⟩ : ∃ o, o = t2 5 tS a := ⟨_, rfl⟩
    rw [← ho] at qA1
    have A1 := Lib.hid (fun (W : World) (g : Nat) (hW : Below w.heap.size w W) (k0 : Hd) (ik0 : (t2 5 tS t).In W.heap.size W k0) (hg : W.heap[g]? = some (.cells #[.int .u8 u.k, .int .i64 u.n, .string u.s, .slice hu.lo u.ls.length hu.lc, .slice hu.to u.ts.length hu.tc] 60)) => show Calls Try.prog 78 #[(t2 5 tS t).val k0, .slice (some ⟨g, 0, none⟩) 1 1] W (fun e w' => ∃ h', e = .returned (.tuple #[o.val h', .int .i64 0]) ∧ o.In w'.heap.size w' h' ∧ Below W.heap.size W w') from by
      have := Inst_any (t2 5 tS t) k0 [u] (some ⟨g, 0, none⟩) 1 W ik0 (row_one hg (carry HIN2.out hW)) (by simp)
      rw [qA1] at this
      exact this)
    have HL := Lib.hid (fun (W : World) (hW : Below w.heap.size w W) => show Calls Try.prog 70 #[.agg #[.int .u8 u.k, .int .i64 u.n, .string u.s, .slice hu.lo u.ls.length hu.lc, .slice hu.to u.ts.length hu.tc], .int .i64 0, .int .i64 1] W (fun e w' => ∃ h', e = .returned (.tuple #[up.val h', .int .i64 0]) ∧ up.In w'.heap.size w' h' ∧ Below W.heap.size W w') from by
      have := Lift_any u hu 0 1 W (carry HIN2.out hW) (by omega)
      rw [qL] at this
      exact this)
    have A3 := Lib.hid (fun (W : World) (g : Nat) (hW : Below w.heap.size w W) (k1 : Hd) (ik1 : (tC cF).In W.heap.size W k1) (hg : W.heap[g]? = some (.cells #[.int .u8 (tC cF).k, .int .i64 (tC cF).n, .string (tC cF).s, .slice k1.lo (tC cF).ls.length k1.lc, .slice k1.to (tC cF).ts.length k1.tc] 60)) => show Calls Try.prog 78 #[.agg #[.int .u8 t.k, .int .i64 t.n, .string t.s, .slice ht.lo t.ls.length ht.lc, .slice ht.to t.ts.length ht.tc], .slice (some ⟨g, 0, none⟩) 1 1] W (fun e w' => ∃ h', e = .returned (.tuple #[nm.val h', .int .i64 0]) ∧ nm.In w'.heap.size w' h' ∧ Below W.heap.size W w') from by
      have := Inst_any t ht [(tC cF)] (some ⟨g, 0, none⟩) 1 W (carry HIN.out hW) (row_one hg ik1) (by simp)
      rw [qA3] at this
      exact this)
    have A4 := Lib.hid (fun (W : World) (g : Nat) (hW : Below w.heap.size w W) (k1 : Hd) (ik1 : nm.In W.heap.size W k1) (hg : W.heap[g]? = some (.cells #[.int .u8 u.k, .int .i64 u.n, .string u.s, .slice hu.lo u.ls.length hu.lc, .slice hu.to u.ts.length hu.tc] 60)) => show Calls Try.prog 78 #[.agg #[.int .u8 nm.k, .int .i64 nm.n, .string nm.s, .slice k1.lo nm.ls.length k1.lc, .slice k1.to nm.ts.length k1.tc], .slice (some ⟨g, 0, none⟩) 1 1] W (fun e w' => ∃ h', e = .returned (.tuple #[b.val h', .int .i64 0]) ∧ b.In w'.heap.size w' h' ∧ Below W.heap.size W w') from by
      have := Inst_any nm k1 [u] (some ⟨g, 0, none⟩) 1 W ik1 (row_one hg (carry HIN2.out hW)) (by simp)
      rw [qA4] at this
      exact this)
    have A5 := Lib.hid (fun (W : World) (g : Nat) (hW : Below w.heap.size w W) (k1 : Hd) (ik1 : a.In W.heap.size W k1) (k2 : Hd) (ik2 : (tC cF).In W.heap.size W k2) (hg : W.heap[g]? = some (.cells #[.int .u8 (tC cF).k, .int .i64 (tC cF).n, .string (tC cF).s, .slice k2.lo (tC cF).ls.length k2.lc, .slice k2.to (tC cF).ts.length k2.tc] 60)) => show Calls Try.prog 78 #[.agg #[.int .u8 a.k, .int .i64 a.n, .string a.s, .slice k1.lo a.ls.length k1.lc, .slice k1.to a.ts.length k1.tc], .slice (some ⟨g, 0, none⟩) 1 1] W (fun e w' => ∃ h', e = .returned (.tuple #[b.val h', .int .i64 0]) ∧ b.In w'.heap.size w' h' ∧ Below W.heap.size W w') from by
      have := Inst_any a k1 [(tC cF)] (some ⟨g, 0, none⟩) 1 W ik1 (row_one hg ik2) (by simp)
      rw [qA5] at this
      exact this)
    have A6 := Lib.hid (fun (W : World) (g : Nat) (hW : Below w.heap.size w W)  (hg : W.heap[g]? = some (.cells #[.int .u8 u.k, .int .i64 u.n, .string u.s, .slice hu.lo u.ls.length hu.lc, .slice hu.to u.ts.length hu.tc] 60)) => show Calls Try.prog 78 #[.agg #[.int .u8 t.k, .int .i64 t.n, .string t.s, .slice ht.lo t.ls.length ht.lc, .slice ht.to t.ts.length ht.tc], .slice (some ⟨g, 0, none⟩) 1 1] W (fun e w' => ∃ h', e = .returned (.tuple #[x.val h', .int .i64 0]) ∧ x.In w'.heap.size w' h' ∧ Below W.heap.size W w') from by
      have := Inst_any t ht [u] (some ⟨g, 0, none⟩) 1 W (carry HIN.out hW) (row_one hg (carry HIN2.out hW)) (by simp)
      rw [qA6] at this
      exact this)
    have HSB := Lib.hid (fun (W : World) (h h' : Hd) (hi : b.In W.heap.size W h) (hi' : b.In W.heap.size W h') => show Calls Try.prog 53 #[.agg #[.int .u8 b.k, .int .i64 b.n, .string b.s, .slice h.lo b.ls.length h.lc, .slice h.to b.ts.length h.tc], .agg #[.int .u8 b.k, .int .i64 b.n, .string b.s, .slice h'.lo b.ls.length h'.lc, .slice h'.to b.ts.length h'.tc]] W (fun e w' => e = .returned (.bool true) ∧ Below W.heap.size W w') from
      (show same b b = true from same_iff.2 rfl) ▸ RefSame_any b b h h' W hi hi')
    have HLL := Lib.hid (fun (W : World) (hS : Hd) (hW : Below w.heap.size w W) (iS : tS.In W.heap.size W hS) => show Calls Try.prog 65 #[tS.val hS, .agg #[.int .u8 t.k, .int .i64 t.n, .string t.s, .slice ht.lo t.ls.length ht.lc, .slice ht.to t.ts.length ht.tc]] W (Made (t2 5 tS t) W) from L_any tS t hS ht W iS (carry HIN.out hW))
    have HCC := Lib.hid (fun (W : World) => (show Calls Try.prog 81 #[.string ⟨#[102, 114, 101, 115, 104, 39]⟩] W (Made (tC cF) W) from C_any cF W (by decide)))
    have HFX := Lib.hid (fun (W : World) (h : Hd) (hi : x.In W.heap.size W h) => show Calls Try.prog 60 #[.agg #[.int .u8 x.k, .int .i64 x.n, .string x.s, .slice h.lo x.ls.length h.lc, .slice h.to x.ts.length h.tc]] W (fun e w' => e = .returned (.int .i64 x.free) ∧ Below W.heap.size W w') from RefFree_any x h W mx hi)
    have HZP := Lib.hid (fun (W : World) (h : Hd) (hi : up.In W.heap.size W h) => show Calls Try.prog 59 #[.agg #[.int .u8 up.k, .int .i64 up.n, .string up.s, .slice h.lo up.ls.length h.lc, .slice h.to up.ts.length h.tc]] W (fun e w' => e = .returned (.int .i64 up.size) ∧ Below W.heap.size W w') from Size_any up h W (by omega) hi)
    have MO := Lib.hid (show o.may = true from inst_made qA1)
    have MNM := Lib.hid (show nm.may = true from inst_made qA3)
    have MB := Lib.hid (show b.may = true from inst_made qA4)
    have QFX := Lib.hid qfx
    have QSZ := Lib.hid qsz
    have HO := Lib.hid ho
    have MT := Lib.hid mt
    have MU := Lib.hid mu
    have ZU := Lib.hid zu
    have hfr0 : 0 ≤ t.free ∧ t.free ≤ 1000 := ⟨(free_facts mt).1, ft⟩
    clear qA1 qL qA3 qA4 qA5 qA6 qfx qsz mx mup ho mt zt ft mu zu fu HF HFE
    go_wp2_with fail
    have HSQ := Lib.hid (fun (W : World) (hbq : Below v1.heap.size v1 W) => show Below v1.heap.size v1 W ∧ W.cell? ⟨w.heap.size, 0, none⟩ = some (.int .u8 t.k) ∧ W.cell? ⟨w.heap.size, 1, none⟩ = some (.int .i64 t.n) ∧ W.cell? ⟨w.heap.size, 2, none⟩ = some (.string t.s) ∧ W.cell? ⟨w.heap.size, 3, none⟩ = some (.slice ht.lo t.ls.length ht.lc) ∧ W.cell? ⟨w.heap.size, 4, none⟩ = some (.slice ht.to t.ts.length ht.tc) ∧ W.cell? ⟨w.heap.size + 1, 0, none⟩ = some (.int .u8 u.k) ∧ W.cell? ⟨w.heap.size + 1, 1, none⟩ = some (.int .i64 u.n) ∧ W.cell? ⟨w.heap.size + 1, 2, none⟩ = some (.string u.s) ∧ W.cell? ⟨w.heap.size + 1, 3, none⟩ = some (.slice hu.lo u.ls.length hu.lc) ∧ W.cell? ⟨w.heap.size + 1, 4, none⟩ = some (.slice hu.to u.ts.length hu.tc) from ⟨hbq, (five_cells (show W.heap[w.heap.size]? = some (.cells #[.int .u8 t.k, .int .i64 t.n, .string t.s, .slice ht.lo t.ls.length ht.lc, .slice ht.to t.ts.length ht.tc] 60) from Lvl.keep hbq XT_1.out)).1, (five_cells (show W.heap[w.heap.size]? = some (.cells #[.int .u8 t.k, .int .i64 t.n, .string t.s, .slice ht.lo t.ls.length ht.lc, .slice ht.to t.ts.length ht.tc] 60) from Lvl.keep hbq XT_1.out)).2.1, (five_cells (show W.heap[w.heap.size]? = some (.cells #[.int .u8 t.k, .int .i64 t.n, .string t.s, .slice ht.lo t.ls.length ht.lc, .slice ht.to t.ts.length ht.tc] 60) from Lvl.keep hbq XT_1.out)).2.2.1, (five_cells (show W.heap[w.heap.size]? = some (.cells #[.int .u8 t.k, .int .i64 t.n, .string t.s, .slice ht.lo t.ls.length ht.lc, .slice ht.to t.ts.length ht.tc] 60) from Lvl.keep hbq XT_1.out)).2.2.2.1, (five_cells (show W.heap[w.heap.size]? = some (.cells #[.int .u8 t.k, .int .i64 t.n, .string t.s, .slice ht.lo t.ls.length ht.lc, .slice ht.to t.ts.length ht.tc] 60) from Lvl.keep hbq XT_1.out)).2.2.2.2, (five_cells (show W.heap[w.heap.size + 1]? = some (.cells #[.int .u8 u.k, .int .i64 u.n, .string u.s, .slice hu.lo u.ls.length hu.lc, .slice hu.to u.ts.length hu.tc] 60) from Lvl.keep hbq XU_1.out)).1, (five_cells (show W.heap[w.heap.size + 1]? = some (.cells #[.int .u8 u.k, .int .i64 u.n, .string u.s, .slice hu.lo u.ls.length hu.lc, .slice hu.to u.ts.length hu.tc] 60) from Lvl.keep hbq XU_1.out)).2.1, (five_cells (show W.heap[w.heap.size + 1]? = some (.cells #[.int .u8 u.k, .int .i64 u.n, .string u.s, .slice hu.lo u.ls.length hu.lc, .slice hu.to u.ts.length hu.tc] 60) from Lvl.keep hbq XU_1.out)).2.2.1, (five_cells (show W.heap[w.heap.size + 1]? = some (.cells #[.int .u8 u.k, .int .i64 u.n, .string u.s, .slice hu.lo u.ls.length hu.lc, .slice hu.to u.ts.length hu.tc] 60) from Lvl.keep hbq XU_1.out)).2.2.2.1, (five_cells (show W.heap[w.heap.size + 1]? = some (.cells #[.int .u8 u.k, .int .i64 u.n, .string u.s, .slice hu.lo u.ls.length hu.lc, .slice hu.to u.ts.length hu.tc] 60) from Lvl.keep hbq XU_1.out)).2.2.2.2⟩)
    go_cut [5, 6] (fun s1 s2 wx => CutN v1 o s1 s2 wx)
    case first =>
      clear HL A3 A4 A5 A6 HSB HCC HFX HZP MNM MB QFX QSZ HO MT MU ZU HFR HFU HZU HIN HIN2
      go_region_held3 (fun w' => Below v1.heap.size v1 w' ∧ w'.cell? ⟨w.heap.size, 0, none⟩ = some (.int .u8 t.k) ∧ w'.cell? ⟨w.heap.size, 1, none⟩ = some (.int .i64 t.n) ∧ w'.cell? ⟨w.heap.size, 2, none⟩ = some (.string t.s) ∧ w'.cell? ⟨w.heap.size, 3, none⟩ = some (.slice ht.lo t.ls.length ht.lc) ∧ w'.cell? ⟨w.heap.size, 4, none⟩ = some (.slice ht.to t.ts.length ht.tc) ∧ w'.cell? ⟨w.heap.size + 1, 0, none⟩ = some (.int .u8 u.k) ∧ w'.cell? ⟨w.heap.size + 1, 1, none⟩ = some (.int .i64 u.n) ∧ w'.cell? ⟨w.heap.size + 1, 2, none⟩ = some (.string u.s) ∧ w'.cell? ⟨w.heap.size + 1, 3, none⟩ = some (.slice hu.lo u.ls.length hu.lc) ∧ w'.cell? ⟨w.heap.size + 1, 4, none⟩ = some (.slice hu.to u.ts.length hu.tc)) (first | (have _q := HZ2.out; first | (with_reducible exact HSQ.out _ HBq2.out) | exact HSQ.out _ (putT_below HBq2.out (by have h0 := HBq0.out.size; have h1 := HBq1.out.size; have h2 := HBq2.out.size; omega) _ _ _ _ _)) | (with_reducible exact HSQ.out _ (Below.refl _ _).drew) | (with_reducible exact HSQ.out _ (below_one _ _).drew) | (with_reducible exact HSQ.out _ (below_two _ _ _).drew) | (with_reducible exact HSQ.out _ HBq2.out) | (with_reducible exact HSQ.out _ (Trm.go HBq2.out (below_one _ _))) | (with_reducible exact HSQ.out _ (Trm.go HBq2.out (below_two _ _ _))) | (with_reducible exact HSQ.out _ HBq1.out) | (with_reducible exact HSQ.out _ (Trm.go HBq1.out (below_one _ _))) | (with_reducible exact HSQ.out _ (Trm.go HBq1.out (below_two _ _ _))) | (with_reducible exact HSQ.out _ HBq0.out) | (with_reducible exact HSQ.out _ (Trm.go HBq0.out (below_one _ _))) | (with_reducible exact HSQ.out _ (Trm.go HBq0.out (below_two _ _ _))))
        (first
        | (go_at_call 66; have hC := S_any (v1.drew); (with_reducible refine hC.mono ?_); clear hC; rintro e ws ⟨hS, rfl, iS, bs⟩
           have bs0 : Below (v1).heap.size (v1) ws := Lvl.undrew bs
           have hbq := Trm.go (Below.refl _ _) bs0
           have HBq0 := Lib.hid hbq
           have hxT := Lvl.keep hbq XT_1.out
           obtain ⟨cT0, cT1, cT2, cT3, cT4⟩ := five_cells (show ws.heap[w.heap.size]? = some (.cells #[.int .u8 t.k, .int .i64 t.n, .string t.s, .slice ht.lo t.ls.length ht.lc, .slice ht.to t.ts.length ht.tc] 60) from hxT)
           have lT : w.heap.size < ws.heap.size := (Array.getElem?_eq_some_iff.1 hxT).1
           clear hxT
           have hxU := Lvl.keep hbq XU_1.out
           obtain ⟨cU0, cU1, cU2, cU3, cU4⟩ := five_cells (show ws.heap[w.heap.size + 1]? = some (.cells #[.int .u8 u.k, .int .i64 u.n, .string u.s, .slice hu.lo u.ls.length hu.lc, .slice hu.to u.ts.length hu.tc] 60) from hxU)
           have lU : w.heap.size + 1 < ws.heap.size := (Array.getElem?_eq_some_iff.1 hxU).1
           clear hxU
           have ISq := Lib.hid iS
           clear iS bs hbq bs0
           skip)
        | (go_at_call 66; have hC := S_any ((v1.alloc (.cells #[.int .u8 0, .int .i64 0, .string ⟨#[]⟩, .slice none 0 0, .slice none 0 0] 60)).drew); (with_reducible refine hC.mono ?_); clear hC; rintro e ws ⟨hS, rfl, iS, bs⟩
           have bs0 : Below ((v1.alloc (.cells #[.int .u8 0, .int .i64 0, .string ⟨#[]⟩, .slice none 0 0, .slice none 0 0] 60))).heap.size ((v1.alloc (.cells #[.int .u8 0, .int .i64 0, .string ⟨#[]⟩, .slice none 0 0, .slice none 0 0] 60))) ws := Lvl.undrew bs
           have hbq := Trm.go (below_one _ _) bs0
           have HBq0 := Lib.hid hbq
           have hzZ := Lvl.keep bs0 (World.alloc_heap_new v1 (.cells #[.int .u8 0, .int .i64 0, .string ⟨#[]⟩, .slice none 0 0, .slice none 0 0] 60))
           have HZ0 := Lib.hid hzZ
           clear hzZ
           have hxT := Lvl.keep hbq XT_1.out
           obtain ⟨cT0, cT1, cT2, cT3, cT4⟩ := five_cells (show ws.heap[w.heap.size]? = some (.cells #[.int .u8 t.k, .int .i64 t.n, .string t.s, .slice ht.lo t.ls.length ht.lc, .slice ht.to t.ts.length ht.tc] 60) from hxT)
           have lT : w.heap.size < ws.heap.size := (Array.getElem?_eq_some_iff.1 hxT).1
           clear hxT
           have hxU := Lvl.keep hbq XU_1.out
           obtain ⟨cU0, cU1, cU2, cU3, cU4⟩ := five_cells (show ws.heap[w.heap.size + 1]? = some (.cells #[.int .u8 u.k, .int .i64 u.n, .string u.s, .slice hu.lo u.ls.length hu.lc, .slice hu.to u.ts.length hu.tc] 60) from hxU)
           have lU : w.heap.size + 1 < ws.heap.size := (Array.getElem?_eq_some_iff.1 hxU).1
           clear hxU
           have ISq := Lib.hid iS
           clear iS bs hbq bs0
           skip)
        | (go_at_call 66; have hC := S_any ((v1.alloc (.cells #[.int .u8 u.k, .int .i64 u.n, .string u.s, .slice hu.lo u.ls.length hu.lc, .slice hu.to u.ts.length hu.tc] 60)).drew); (with_reducible refine hC.mono ?_); clear hC; rintro e ws ⟨hS, rfl, iS, bs⟩
           have bs0 : Below ((v1.alloc (.cells #[.int .u8 u.k, .int .i64 u.n, .string u.s, .slice hu.lo u.ls.length hu.lc, .slice hu.to u.ts.length hu.tc] 60))).heap.size ((v1.alloc (.cells #[.int .u8 u.k, .int .i64 u.n, .string u.s, .slice hu.lo u.ls.length hu.lc, .slice hu.to u.ts.length hu.tc] 60))) ws := Lvl.undrew bs
           have hbq := Trm.go (below_one _ _) bs0
           have HBq0 := Lib.hid hbq
           have hzU := Lvl.keep bs0 (World.alloc_heap_new v1 (.cells #[.int .u8 u.k, .int .i64 u.n, .string u.s, .slice hu.lo u.ls.length hu.lc, .slice hu.to u.ts.length hu.tc] 60))
           have HU0 := Lib.hid hzU
           clear hzU
           have hxT := Lvl.keep hbq XT_1.out
           obtain ⟨cT0, cT1, cT2, cT3, cT4⟩ := five_cells (show ws.heap[w.heap.size]? = some (.cells #[.int .u8 t.k, .int .i64 t.n, .string t.s, .slice ht.lo t.ls.length ht.lc, .slice ht.to t.ts.length ht.tc] 60) from hxT)
           have lT : w.heap.size < ws.heap.size := (Array.getElem?_eq_some_iff.1 hxT).1
           clear hxT
           have hxU := Lvl.keep hbq XU_1.out
           obtain ⟨cU0, cU1, cU2, cU3, cU4⟩ := five_cells (show ws.heap[w.heap.size + 1]? = some (.cells #[.int .u8 u.k, .int .i64 u.n, .string u.s, .slice hu.lo u.ls.length hu.lc, .slice hu.to u.ts.length hu.tc] 60) from hxU)
           have lU : w.heap.size + 1 < ws.heap.size := (Array.getElem?_eq_some_iff.1 hxU).1
           clear hxU
           have ISq := Lib.hid iS
           clear iS bs hbq bs0
           skip)
        | (go_at_call 66; have hC := S_any (((v1.alloc (.cells #[.int .u8 0, .int .i64 0, .string ⟨#[]⟩, .slice none 0 0, .slice none 0 0] 60)).alloc (.cells #[.int .u8 u.k, .int .i64 u.n, .string u.s, .slice hu.lo u.ls.length hu.lc, .slice hu.to u.ts.length hu.tc] 60)).drew); (with_reducible refine hC.mono ?_); clear hC; rintro e ws ⟨hS, rfl, iS, bs⟩
           have bs0 : Below (((v1.alloc (.cells #[.int .u8 0, .int .i64 0, .string ⟨#[]⟩, .slice none 0 0, .slice none 0 0] 60)).alloc (.cells #[.int .u8 u.k, .int .i64 u.n, .string u.s, .slice hu.lo u.ls.length hu.lc, .slice hu.to u.ts.length hu.tc] 60))).heap.size (((v1.alloc (.cells #[.int .u8 0, .int .i64 0, .string ⟨#[]⟩, .slice none 0 0, .slice none 0 0] 60)).alloc (.cells #[.int .u8 u.k, .int .i64 u.n, .string u.s, .slice hu.lo u.ls.length hu.lc, .slice hu.to u.ts.length hu.tc] 60))) ws := Lvl.undrew bs
           have hbq := Trm.go (below_two _ _ _) bs0
           have HBq0 := Lib.hid hbq
           have hzZ := Lvl.keep bs0 (new1of2 v1 (.cells #[.int .u8 0, .int .i64 0, .string ⟨#[]⟩, .slice none 0 0, .slice none 0 0] 60) (.cells #[.int .u8 u.k, .int .i64 u.n, .string u.s, .slice hu.lo u.ls.length hu.lc, .slice hu.to u.ts.length hu.tc] 60))
           have HZ0 := Lib.hid hzZ
           clear hzZ
           have hzU := Lvl.keep bs0 (new2 v1 (.cells #[.int .u8 0, .int .i64 0, .string ⟨#[]⟩, .slice none 0 0, .slice none 0 0] 60) (.cells #[.int .u8 u.k, .int .i64 u.n, .string u.s, .slice hu.lo u.ls.length hu.lc, .slice hu.to u.ts.length hu.tc] 60))
           have HU0 := Lib.hid hzU
           clear hzU
           have hxT := Lvl.keep hbq XT_1.out
           obtain ⟨cT0, cT1, cT2, cT3, cT4⟩ := five_cells (show ws.heap[w.heap.size]? = some (.cells #[.int .u8 t.k, .int .i64 t.n, .string t.s, .slice ht.lo t.ls.length ht.lc, .slice ht.to t.ts.length ht.tc] 60) from hxT)
           have lT : w.heap.size < ws.heap.size := (Array.getElem?_eq_some_iff.1 hxT).1
           clear hxT
           have hxU := Lvl.keep hbq XU_1.out
           obtain ⟨cU0, cU1, cU2, cU3, cU4⟩ := five_cells (show ws.heap[w.heap.size + 1]? = some (.cells #[.int .u8 u.k, .int .i64 u.n, .string u.s, .slice hu.lo u.ls.length hu.lc, .slice hu.to u.ts.length hu.tc] 60) from hxU)
           have lU : w.heap.size + 1 < ws.heap.size := (Array.getElem?_eq_some_iff.1 hxU).1
           clear hxU
           have ISq := Lib.hid iS
           clear iS bs hbq bs0
           skip)
        | (go_at_call 66; have hC := S_any (((v1.alloc (.cells #[.int .u8 u.k, .int .i64 u.n, .string u.s, .slice hu.lo u.ls.length hu.lc, .slice hu.to u.ts.length hu.tc] 60)).alloc (.cells #[.int .u8 0, .int .i64 0, .string ⟨#[]⟩, .slice none 0 0, .slice none 0 0] 60)).drew); (with_reducible refine hC.mono ?_); clear hC; rintro e ws ⟨hS, rfl, iS, bs⟩
           have bs0 : Below (((v1.alloc (.cells #[.int .u8 u.k, .int .i64 u.n, .string u.s, .slice hu.lo u.ls.length hu.lc, .slice hu.to u.ts.length hu.tc] 60)).alloc (.cells #[.int .u8 0, .int .i64 0, .string ⟨#[]⟩, .slice none 0 0, .slice none 0 0] 60))).heap.size (((v1.alloc (.cells #[.int .u8 u.k, .int .i64 u.n, .string u.s, .slice hu.lo u.ls.length hu.lc, .slice hu.to u.ts.length hu.tc] 60)).alloc (.cells #[.int .u8 0, .int .i64 0, .string ⟨#[]⟩, .slice none 0 0, .slice none 0 0] 60))) ws := Lvl.undrew bs
           have hbq := Trm.go (below_two _ _ _) bs0
           have HBq0 := Lib.hid hbq
           have hzU := Lvl.keep bs0 (new1of2 v1 (.cells #[.int .u8 u.k, .int .i64 u.n, .string u.s, .slice hu.lo u.ls.length hu.lc, .slice hu.to u.ts.length hu.tc] 60) (.cells #[.int .u8 0, .int .i64 0, .string ⟨#[]⟩, .slice none 0 0, .slice none 0 0] 60))
           have HU0 := Lib.hid hzU
           clear hzU
           have hzZ := Lvl.keep bs0 (new2 v1 (.cells #[.int .u8 u.k, .int .i64 u.n, .string u.s, .slice hu.lo u.ls.length hu.lc, .slice hu.to u.ts.length hu.tc] 60) (.cells #[.int .u8 0, .int .i64 0, .string ⟨#[]⟩, .slice none 0 0, .slice none 0 0] 60))
           have HZ0 := Lib.hid hzZ
           clear hzZ
           have hxT := Lvl.keep hbq XT_1.out
           obtain ⟨cT0, cT1, cT2, cT3, cT4⟩ := five_cells (show ws.heap[w.heap.size]? = some (.cells #[.int .u8 t.k, .int .i64 t.n, .string t.s, .slice ht.lo t.ls.length ht.lc, .slice ht.to t.ts.length ht.tc] 60) from hxT)
           have lT : w.heap.size < ws.heap.size := (Array.getElem?_eq_some_iff.1 hxT).1
           clear hxT
           have hxU := Lvl.keep hbq XU_1.out
           obtain ⟨cU0, cU1, cU2, cU3, cU4⟩ := five_cells (show ws.heap[w.heap.size + 1]? = some (.cells #[.int .u8 u.k, .int .i64 u.n, .string u.s, .slice hu.lo u.ls.length hu.lc, .slice hu.to u.ts.length hu.tc] 60) from hxU)
           have lU : w.heap.size + 1 < ws.heap.size := (Array.getElem?_eq_some_iff.1 hxU).1
           clear hxU
           have ISq := Lib.hid iS
           clear iS bs hbq bs0
           skip)
        | (have _q0 := HZ0.out; have _q1 := HU0.out; go_at_call 65; have hC := HLL.out (ws) hS (Trm.go HB_1.out (Trm.go HBq0.out (Below.refl _ _))) (carry ISq.out (Below.refl _ _)); (with_reducible refine hC.mono ?_); clear hC; rintro e wl ⟨hl, rfl, iL, bl⟩
           have hbq := Trm.go HBq0.out (Trm.go (Below.refl _ _) bl)
           have HBq1 := Lib.hid hbq
           have hzZ := Lvl.keep (Trm.go (Below.refl _ _) bl) HZ0.out
           have HZ1 := Lib.hid hzZ
           clear hzZ
           have hzU := Lvl.keep (Trm.go (Below.refl _ _) bl) HU0.out
           have HU1 := Lib.hid hzU
           clear hzU
           have hxT := Lvl.keep hbq XT_1.out
           obtain ⟨cT0, cT1, cT2, cT3, cT4⟩ := five_cells (show wl.heap[w.heap.size]? = some (.cells #[.int .u8 t.k, .int .i64 t.n, .string t.s, .slice ht.lo t.ls.length ht.lc, .slice ht.to t.ts.length ht.tc] 60) from hxT)
           have lT : w.heap.size < wl.heap.size := (Array.getElem?_eq_some_iff.1 hxT).1
           clear hxT
           have hxU := Lvl.keep hbq XU_1.out
           obtain ⟨cU0, cU1, cU2, cU3, cU4⟩ := five_cells (show wl.heap[w.heap.size + 1]? = some (.cells #[.int .u8 u.k, .int .i64 u.n, .string u.s, .slice hu.lo u.ls.length hu.lc, .slice hu.to u.ts.length hu.tc] 60) from hxU)
           have lU : w.heap.size + 1 < wl.heap.size := (Array.getElem?_eq_some_iff.1 hxU).1
           clear hxU
           have ILq := Lib.hid iL
           clear iL bl hbq
           skip)
        | (have _q0 := HZ0.out; go_at_call 65; have hC := HLL.out (ws) hS (Trm.go HB_1.out (Trm.go HBq0.out (Below.refl _ _))) (carry ISq.out (Below.refl _ _)); (with_reducible refine hC.mono ?_); clear hC; rintro e wl ⟨hl, rfl, iL, bl⟩
           have hbq := Trm.go HBq0.out (Trm.go (Below.refl _ _) bl)
           have HBq1 := Lib.hid hbq
           have hzZ := Lvl.keep (Trm.go (Below.refl _ _) bl) HZ0.out
           have HZ1 := Lib.hid hzZ
           clear hzZ
           have hxT := Lvl.keep hbq XT_1.out
           obtain ⟨cT0, cT1, cT2, cT3, cT4⟩ := five_cells (show wl.heap[w.heap.size]? = some (.cells #[.int .u8 t.k, .int .i64 t.n, .string t.s, .slice ht.lo t.ls.length ht.lc, .slice ht.to t.ts.length ht.tc] 60) from hxT)
           have lT : w.heap.size < wl.heap.size := (Array.getElem?_eq_some_iff.1 hxT).1
           clear hxT
           have hxU := Lvl.keep hbq XU_1.out
           obtain ⟨cU0, cU1, cU2, cU3, cU4⟩ := five_cells (show wl.heap[w.heap.size + 1]? = some (.cells #[.int .u8 u.k, .int .i64 u.n, .string u.s, .slice hu.lo u.ls.length hu.lc, .slice hu.to u.ts.length hu.tc] 60) from hxU)
           have lU : w.heap.size + 1 < wl.heap.size := (Array.getElem?_eq_some_iff.1 hxU).1
           clear hxU
           have ILq := Lib.hid iL
           clear iL bl hbq
           skip)
        | (have _q0 := HZ0.out; go_at_call 65; have hC := HLL.out ((ws.alloc (.cells #[.int .u8 u.k, .int .i64 u.n, .string u.s, .slice hu.lo u.ls.length hu.lc, .slice hu.to u.ts.length hu.tc] 60))) hS (Trm.go HB_1.out (Trm.go HBq0.out (below_one _ _))) (carry ISq.out (below_one _ _)); (with_reducible refine hC.mono ?_); clear hC; rintro e wl ⟨hl, rfl, iL, bl⟩
           have hbq := Trm.go HBq0.out (Trm.go (below_one _ _) bl)
           have HBq1 := Lib.hid hbq
           have hzZ := Lvl.keep (Trm.go (below_one _ _) bl) HZ0.out
           have HZ1 := Lib.hid hzZ
           clear hzZ
           have hzU := Lvl.keep bl (World.alloc_heap_new ws (.cells #[.int .u8 u.k, .int .i64 u.n, .string u.s, .slice hu.lo u.ls.length hu.lc, .slice hu.to u.ts.length hu.tc] 60))
           have HU1 := Lib.hid hzU
           clear hzU
           have hxT := Lvl.keep hbq XT_1.out
           obtain ⟨cT0, cT1, cT2, cT3, cT4⟩ := five_cells (show wl.heap[w.heap.size]? = some (.cells #[.int .u8 t.k, .int .i64 t.n, .string t.s, .slice ht.lo t.ls.length ht.lc, .slice ht.to t.ts.length ht.tc] 60) from hxT)
           have lT : w.heap.size < wl.heap.size := (Array.getElem?_eq_some_iff.1 hxT).1
           clear hxT
           have hxU := Lvl.keep hbq XU_1.out
           obtain ⟨cU0, cU1, cU2, cU3, cU4⟩ := five_cells (show wl.heap[w.heap.size + 1]? = some (.cells #[.int .u8 u.k, .int .i64 u.n, .string u.s, .slice hu.lo u.ls.length hu.lc, .slice hu.to u.ts.length hu.tc] 60) from hxU)
           have lU : w.heap.size + 1 < wl.heap.size := (Array.getElem?_eq_some_iff.1 hxU).1
           clear hxU
           have ILq := Lib.hid iL
           clear iL bl hbq
           skip)
        | (have _q0 := HU0.out; go_at_call 65; have hC := HLL.out (ws) hS (Trm.go HB_1.out (Trm.go HBq0.out (Below.refl _ _))) (carry ISq.out (Below.refl _ _)); (with_reducible refine hC.mono ?_); clear hC; rintro e wl ⟨hl, rfl, iL, bl⟩
           have hbq := Trm.go HBq0.out (Trm.go (Below.refl _ _) bl)
           have HBq1 := Lib.hid hbq
           have hzU := Lvl.keep (Trm.go (Below.refl _ _) bl) HU0.out
           have HU1 := Lib.hid hzU
           clear hzU
           have hxT := Lvl.keep hbq XT_1.out
           obtain ⟨cT0, cT1, cT2, cT3, cT4⟩ := five_cells (show wl.heap[w.heap.size]? = some (.cells #[.int .u8 t.k, .int .i64 t.n, .string t.s, .slice ht.lo t.ls.length ht.lc, .slice ht.to t.ts.length ht.tc] 60) from hxT)
           have lT : w.heap.size < wl.heap.size := (Array.getElem?_eq_some_iff.1 hxT).1
           clear hxT
           have hxU := Lvl.keep hbq XU_1.out
           obtain ⟨cU0, cU1, cU2, cU3, cU4⟩ := five_cells (show wl.heap[w.heap.size + 1]? = some (.cells #[.int .u8 u.k, .int .i64 u.n, .string u.s, .slice hu.lo u.ls.length hu.lc, .slice hu.to u.ts.length hu.tc] 60) from hxU)
           have lU : w.heap.size + 1 < wl.heap.size := (Array.getElem?_eq_some_iff.1 hxU).1
           clear hxU
           have ILq := Lib.hid iL
           clear iL bl hbq
           skip)
        | (have _q0 := HU0.out; go_at_call 65; have hC := HLL.out ((ws.alloc (.cells #[.int .u8 0, .int .i64 0, .string ⟨#[]⟩, .slice none 0 0, .slice none 0 0] 60))) hS (Trm.go HB_1.out (Trm.go HBq0.out (below_one _ _))) (carry ISq.out (below_one _ _)); (with_reducible refine hC.mono ?_); clear hC; rintro e wl ⟨hl, rfl, iL, bl⟩
           have hbq := Trm.go HBq0.out (Trm.go (below_one _ _) bl)
           have HBq1 := Lib.hid hbq
           have hzU := Lvl.keep (Trm.go (below_one _ _) bl) HU0.out
           have HU1 := Lib.hid hzU
           clear hzU
           have hzZ := Lvl.keep bl (World.alloc_heap_new ws (.cells #[.int .u8 0, .int .i64 0, .string ⟨#[]⟩, .slice none 0 0, .slice none 0 0] 60))
           have HZ1 := Lib.hid hzZ
           clear hzZ
           have hxT := Lvl.keep hbq XT_1.out
           obtain ⟨cT0, cT1, cT2, cT3, cT4⟩ := five_cells (show wl.heap[w.heap.size]? = some (.cells #[.int .u8 t.k, .int .i64 t.n, .string t.s, .slice ht.lo t.ls.length ht.lc, .slice ht.to t.ts.length ht.tc] 60) from hxT)
           have lT : w.heap.size < wl.heap.size := (Array.getElem?_eq_some_iff.1 hxT).1
           clear hxT
           have hxU := Lvl.keep hbq XU_1.out
           obtain ⟨cU0, cU1, cU2, cU3, cU4⟩ := five_cells (show wl.heap[w.heap.size + 1]? = some (.cells #[.int .u8 u.k, .int .i64 u.n, .string u.s, .slice hu.lo u.ls.length hu.lc, .slice hu.to u.ts.length hu.tc] 60) from hxU)
           have lU : w.heap.size + 1 < wl.heap.size := (Array.getElem?_eq_some_iff.1 hxU).1
           clear hxU
           have ILq := Lib.hid iL
           clear iL bl hbq
           skip)
        | (go_at_call 65; have hC := HLL.out (ws) hS (Trm.go HB_1.out (Trm.go HBq0.out (Below.refl _ _))) (carry ISq.out (Below.refl _ _)); (with_reducible refine hC.mono ?_); clear hC; rintro e wl ⟨hl, rfl, iL, bl⟩
           have hbq := Trm.go HBq0.out (Trm.go (Below.refl _ _) bl)
           have HBq1 := Lib.hid hbq
           have hxT := Lvl.keep hbq XT_1.out
           obtain ⟨cT0, cT1, cT2, cT3, cT4⟩ := five_cells (show wl.heap[w.heap.size]? = some (.cells #[.int .u8 t.k, .int .i64 t.n, .string t.s, .slice ht.lo t.ls.length ht.lc, .slice ht.to t.ts.length ht.tc] 60) from hxT)
           have lT : w.heap.size < wl.heap.size := (Array.getElem?_eq_some_iff.1 hxT).1
           clear hxT
           have hxU := Lvl.keep hbq XU_1.out
           obtain ⟨cU0, cU1, cU2, cU3, cU4⟩ := five_cells (show wl.heap[w.heap.size + 1]? = some (.cells #[.int .u8 u.k, .int .i64 u.n, .string u.s, .slice hu.lo u.ls.length hu.lc, .slice hu.to u.ts.length hu.tc] 60) from hxU)
           have lU : w.heap.size + 1 < wl.heap.size := (Array.getElem?_eq_some_iff.1 hxU).1
           clear hxU
           have ILq := Lib.hid iL
           clear iL bl hbq
           skip)
        | (go_at_call 65; have hC := HLL.out ((ws.alloc (.cells #[.int .u8 0, .int .i64 0, .string ⟨#[]⟩, .slice none 0 0, .slice none 0 0] 60))) hS (Trm.go HB_1.out (Trm.go HBq0.out (below_one _ _))) (carry ISq.out (below_one _ _)); (with_reducible refine hC.mono ?_); clear hC; rintro e wl ⟨hl, rfl, iL, bl⟩
           have hbq := Trm.go HBq0.out (Trm.go (below_one _ _) bl)
           have HBq1 := Lib.hid hbq
           have hzZ := Lvl.keep bl (World.alloc_heap_new ws (.cells #[.int .u8 0, .int .i64 0, .string ⟨#[]⟩, .slice none 0 0, .slice none 0 0] 60))
           have HZ1 := Lib.hid hzZ
           clear hzZ
           have hxT := Lvl.keep hbq XT_1.out
           obtain ⟨cT0, cT1, cT2, cT3, cT4⟩ := five_cells (show wl.heap[w.heap.size]? = some (.cells #[.int .u8 t.k, .int .i64 t.n, .string t.s, .slice ht.lo t.ls.length ht.lc, .slice ht.to t.ts.length ht.tc] 60) from hxT)
           have lT : w.heap.size < wl.heap.size := (Array.getElem?_eq_some_iff.1 hxT).1
           clear hxT
           have hxU := Lvl.keep hbq XU_1.out
           obtain ⟨cU0, cU1, cU2, cU3, cU4⟩ := five_cells (show wl.heap[w.heap.size + 1]? = some (.cells #[.int .u8 u.k, .int .i64 u.n, .string u.s, .slice hu.lo u.ls.length hu.lc, .slice hu.to u.ts.length hu.tc] 60) from hxU)
           have lU : w.heap.size + 1 < wl.heap.size := (Array.getElem?_eq_some_iff.1 hxU).1
           clear hxU
           have ILq := Lib.hid iL
           clear iL bl hbq
           skip)
        | (go_at_call 65; have hC := HLL.out ((ws.alloc (.cells #[.int .u8 u.k, .int .i64 u.n, .string u.s, .slice hu.lo u.ls.length hu.lc, .slice hu.to u.ts.length hu.tc] 60))) hS (Trm.go HB_1.out (Trm.go HBq0.out (below_one _ _))) (carry ISq.out (below_one _ _)); (with_reducible refine hC.mono ?_); clear hC; rintro e wl ⟨hl, rfl, iL, bl⟩
           have hbq := Trm.go HBq0.out (Trm.go (below_one _ _) bl)
           have HBq1 := Lib.hid hbq
           have hzU := Lvl.keep bl (World.alloc_heap_new ws (.cells #[.int .u8 u.k, .int .i64 u.n, .string u.s, .slice hu.lo u.ls.length hu.lc, .slice hu.to u.ts.length hu.tc] 60))
           have HU1 := Lib.hid hzU
           clear hzU
           have hxT := Lvl.keep hbq XT_1.out
           obtain ⟨cT0, cT1, cT2, cT3, cT4⟩ := five_cells (show wl.heap[w.heap.size]? = some (.cells #[.int .u8 t.k, .int .i64 t.n, .string t.s, .slice ht.lo t.ls.length ht.lc, .slice ht.to t.ts.length ht.tc] 60) from hxT)
           have lT : w.heap.size < wl.heap.size := (Array.getElem?_eq_some_iff.1 hxT).1
           clear hxT
           have hxU := Lvl.keep hbq XU_1.out
           obtain ⟨cU0, cU1, cU2, cU3, cU4⟩ := five_cells (show wl.heap[w.heap.size + 1]? = some (.cells #[.int .u8 u.k, .int .i64 u.n, .string u.s, .slice hu.lo u.ls.length hu.lc, .slice hu.to u.ts.length hu.tc] 60) from hxU)
           have lU : w.heap.size + 1 < wl.heap.size := (Array.getElem?_eq_some_iff.1 hxU).1
           clear hxU
           have ILq := Lib.hid iL
           clear iL bl hbq
           skip)
        | (go_at_call 65; have hC := HLL.out (((ws.alloc (.cells #[.int .u8 0, .int .i64 0, .string ⟨#[]⟩, .slice none 0 0, .slice none 0 0] 60)).alloc (.cells #[.int .u8 u.k, .int .i64 u.n, .string u.s, .slice hu.lo u.ls.length hu.lc, .slice hu.to u.ts.length hu.tc] 60))) hS (Trm.go HB_1.out (Trm.go HBq0.out (below_two _ _ _))) (carry ISq.out (below_two _ _ _)); (with_reducible refine hC.mono ?_); clear hC; rintro e wl ⟨hl, rfl, iL, bl⟩
           have hbq := Trm.go HBq0.out (Trm.go (below_two _ _ _) bl)
           have HBq1 := Lib.hid hbq
           have hzZ := Lvl.keep bl (new1of2 ws (.cells #[.int .u8 0, .int .i64 0, .string ⟨#[]⟩, .slice none 0 0, .slice none 0 0] 60) (.cells #[.int .u8 u.k, .int .i64 u.n, .string u.s, .slice hu.lo u.ls.length hu.lc, .slice hu.to u.ts.length hu.tc] 60))
           have HZ1 := Lib.hid hzZ
           clear hzZ
           have hzU := Lvl.keep bl (new2 ws (.cells #[.int .u8 0, .int .i64 0, .string ⟨#[]⟩, .slice none 0 0, .slice none 0 0] 60) (.cells #[.int .u8 u.k, .int .i64 u.n, .string u.s, .slice hu.lo u.ls.length hu.lc, .slice hu.to u.ts.length hu.tc] 60))
           have HU1 := Lib.hid hzU
           clear hzU
           have hxT := Lvl.keep hbq XT_1.out
           obtain ⟨cT0, cT1, cT2, cT3, cT4⟩ := five_cells (show wl.heap[w.heap.size]? = some (.cells #[.int .u8 t.k, .int .i64 t.n, .string t.s, .slice ht.lo t.ls.length ht.lc, .slice ht.to t.ts.length ht.tc] 60) from hxT)
           have lT : w.heap.size < wl.heap.size := (Array.getElem?_eq_some_iff.1 hxT).1
           clear hxT
           have hxU := Lvl.keep hbq XU_1.out
           obtain ⟨cU0, cU1, cU2, cU3, cU4⟩ := five_cells (show wl.heap[w.heap.size + 1]? = some (.cells #[.int .u8 u.k, .int .i64 u.n, .string u.s, .slice hu.lo u.ls.length hu.lc, .slice hu.to u.ts.length hu.tc] 60) from hxU)
           have lU : w.heap.size + 1 < wl.heap.size := (Array.getElem?_eq_some_iff.1 hxU).1
           clear hxU
           have ILq := Lib.hid iL
           clear iL bl hbq
           skip)
        | (go_at_call 65; have hC := HLL.out (((ws.alloc (.cells #[.int .u8 u.k, .int .i64 u.n, .string u.s, .slice hu.lo u.ls.length hu.lc, .slice hu.to u.ts.length hu.tc] 60)).alloc (.cells #[.int .u8 0, .int .i64 0, .string ⟨#[]⟩, .slice none 0 0, .slice none 0 0] 60))) hS (Trm.go HB_1.out (Trm.go HBq0.out (below_two _ _ _))) (carry ISq.out (below_two _ _ _)); (with_reducible refine hC.mono ?_); clear hC; rintro e wl ⟨hl, rfl, iL, bl⟩
           have hbq := Trm.go HBq0.out (Trm.go (below_two _ _ _) bl)
           have HBq1 := Lib.hid hbq
           have hzU := Lvl.keep bl (new1of2 ws (.cells #[.int .u8 u.k, .int .i64 u.n, .string u.s, .slice hu.lo u.ls.length hu.lc, .slice hu.to u.ts.length hu.tc] 60) (.cells #[.int .u8 0, .int .i64 0, .string ⟨#[]⟩, .slice none 0 0, .slice none 0 0] 60))
           have HU1 := Lib.hid hzU
           clear hzU
           have hzZ := Lvl.keep bl (new2 ws (.cells #[.int .u8 u.k, .int .i64 u.n, .string u.s, .slice hu.lo u.ls.length hu.lc, .slice hu.to u.ts.length hu.tc] 60) (.cells #[.int .u8 0, .int .i64 0, .string ⟨#[]⟩, .slice none 0 0, .slice none 0 0] 60))
           have HZ1 := Lib.hid hzZ
           clear hzZ
           have hxT := Lvl.keep hbq XT_1.out
           obtain ⟨cT0, cT1, cT2, cT3, cT4⟩ := five_cells (show wl.heap[w.heap.size]? = some (.cells #[.int .u8 t.k, .int .i64 t.n, .string t.s, .slice ht.lo t.ls.length ht.lc, .slice ht.to t.ts.length ht.tc] 60) from hxT)
           have lT : w.heap.size < wl.heap.size := (Array.getElem?_eq_some_iff.1 hxT).1
           clear hxT
           have hxU := Lvl.keep hbq XU_1.out
           obtain ⟨cU0, cU1, cU2, cU3, cU4⟩ := five_cells (show wl.heap[w.heap.size + 1]? = some (.cells #[.int .u8 u.k, .int .i64 u.n, .string u.s, .slice hu.lo u.ls.length hu.lc, .slice hu.to u.ts.length hu.tc] 60) from hxU)
           have lU : w.heap.size + 1 < wl.heap.size := (Array.getElem?_eq_some_iff.1 hxU).1
           clear hxU
           have ILq := Lib.hid iL
           clear iL bl hbq
           skip)
        | (have _q0 := HZ1.out; have _q1 := HU1.out; go_at_call 78; have hC := A1.out (wl) _ (Trm.go HB_1.out (Trm.go HBq1.out (Below.refl _ _))) hl (carry ILq.out (Below.refl _ _)) (Lvl.keep (Below.refl _ _) HU1.out); (with_reducible refine hC.mono ?_); clear hC; rintro e wi ⟨h7, rfl, iI, bi⟩
           have hbq := Trm.go HBq1.out (Trm.go (Below.refl _ _) bi)
           have HBq2 := Lib.hid hbq
           have hzZ := Lvl.keep (Trm.go (Below.refl _ _) bi) HZ1.out
           have HZ2 := Lib.hid hzZ
           obtain ⟨p0, p1, p2, p3, p4⟩ := five_cells hzZ
           obtain ⟨f0, f1, f2, f3, f4⟩ := five_free hzZ
           have lx := (Array.getElem?_eq_some_iff.1 hzZ).1
           clear hzZ
           have HII := Lib.hid iI
           clear iI bi hbq
           dsimp only [Tm.val, Tm.vals])
        | (have _q0 := HZ1.out; go_at_call 78; have hC := A1.out ((wl.alloc (.cells #[.int .u8 u.k, .int .i64 u.n, .string u.s, .slice hu.lo u.ls.length hu.lc, .slice hu.to u.ts.length hu.tc] 60))) _ (Trm.go HB_1.out (Trm.go HBq1.out (below_one _ _))) hl (carry ILq.out (below_one _ _)) (World.alloc_heap_new wl (.cells #[.int .u8 u.k, .int .i64 u.n, .string u.s, .slice hu.lo u.ls.length hu.lc, .slice hu.to u.ts.length hu.tc] 60)); (with_reducible refine hC.mono ?_); clear hC; rintro e wi ⟨h7, rfl, iI, bi⟩
           have hbq := Trm.go HBq1.out (Trm.go (below_one _ _) bi)
           have HBq2 := Lib.hid hbq
           have hzZ := Lvl.keep (Trm.go (below_one _ _) bi) HZ1.out
           have HZ2 := Lib.hid hzZ
           obtain ⟨p0, p1, p2, p3, p4⟩ := five_cells hzZ
           obtain ⟨f0, f1, f2, f3, f4⟩ := five_free hzZ
           have lx := (Array.getElem?_eq_some_iff.1 hzZ).1
           clear hzZ
           have HII := Lib.hid iI
           clear iI bi hbq
           dsimp only [Tm.val, Tm.vals])
        | (have _q0 := HU1.out; go_at_call 78; have hC := A1.out (wl) _ (Trm.go HB_1.out (Trm.go HBq1.out (Below.refl _ _))) hl (carry ILq.out (Below.refl _ _)) (Lvl.keep (Below.refl _ _) HU1.out); (with_reducible refine hC.mono ?_); clear hC; rintro e wi ⟨h7, rfl, iI, bi⟩
           have hbq := Trm.go HBq1.out (Trm.go (Below.refl _ _) bi)
           have HBq2 := Lib.hid hbq
           have HII := Lib.hid iI
           clear iI bi hbq
           dsimp only [Tm.val, Tm.vals])
        | (have _q0 := HU1.out; go_at_call 78; have hC := A1.out ((wl.alloc (.cells #[.int .u8 0, .int .i64 0, .string ⟨#[]⟩, .slice none 0 0, .slice none 0 0] 60))) _ (Trm.go HB_1.out (Trm.go HBq1.out (below_one _ _))) hl (carry ILq.out (below_one _ _)) (Lvl.keep (below_one _ _) HU1.out); (with_reducible refine hC.mono ?_); clear hC; rintro e wi ⟨h7, rfl, iI, bi⟩
           have hbq := Trm.go HBq1.out (Trm.go (below_one _ _) bi)
           have HBq2 := Lib.hid hbq
           have hzZ := Lvl.keep bi (World.alloc_heap_new wl (.cells #[.int .u8 0, .int .i64 0, .string ⟨#[]⟩, .slice none 0 0, .slice none 0 0] 60))
           have HZ2 := Lib.hid hzZ
           obtain ⟨p0, p1, p2, p3, p4⟩ := five_cells hzZ
           obtain ⟨f0, f1, f2, f3, f4⟩ := five_free hzZ
           have lx := (Array.getElem?_eq_some_iff.1 hzZ).1
           clear hzZ
           have HII := Lib.hid iI
           clear iI bi hbq
           dsimp only [Tm.val, Tm.vals])
        | (go_at_call 78; have hC := A1.out ((wl.alloc (.cells #[.int .u8 u.k, .int .i64 u.n, .string u.s, .slice hu.lo u.ls.length hu.lc, .slice hu.to u.ts.length hu.tc] 60))) _ (Trm.go HB_1.out (Trm.go HBq1.out (below_one _ _))) hl (carry ILq.out (below_one _ _)) (World.alloc_heap_new wl (.cells #[.int .u8 u.k, .int .i64 u.n, .string u.s, .slice hu.lo u.ls.length hu.lc, .slice hu.to u.ts.length hu.tc] 60)); (with_reducible refine hC.mono ?_); clear hC; rintro e wi ⟨h7, rfl, iI, bi⟩
           have hbq := Trm.go HBq1.out (Trm.go (below_one _ _) bi)
           have HBq2 := Lib.hid hbq
           have HII := Lib.hid iI
           clear iI bi hbq
           dsimp only [Tm.val, Tm.vals])
        | (go_at_call 78; have hC := A1.out (((wl.alloc (.cells #[.int .u8 0, .int .i64 0, .string ⟨#[]⟩, .slice none 0 0, .slice none 0 0] 60)).alloc (.cells #[.int .u8 u.k, .int .i64 u.n, .string u.s, .slice hu.lo u.ls.length hu.lc, .slice hu.to u.ts.length hu.tc] 60))) _ (Trm.go HB_1.out (Trm.go HBq1.out (below_two _ _ _))) hl (carry ILq.out (below_two _ _ _)) (new2 wl (.cells #[.int .u8 0, .int .i64 0, .string ⟨#[]⟩, .slice none 0 0, .slice none 0 0] 60) (.cells #[.int .u8 u.k, .int .i64 u.n, .string u.s, .slice hu.lo u.ls.length hu.lc, .slice hu.to u.ts.length hu.tc] 60)); (with_reducible refine hC.mono ?_); clear hC; rintro e wi ⟨h7, rfl, iI, bi⟩
           have hbq := Trm.go HBq1.out (Trm.go (below_two _ _ _) bi)
           have HBq2 := Lib.hid hbq
           have hzZ := Lvl.keep bi (new1of2 wl (.cells #[.int .u8 0, .int .i64 0, .string ⟨#[]⟩, .slice none 0 0, .slice none 0 0] 60) (.cells #[.int .u8 u.k, .int .i64 u.n, .string u.s, .slice hu.lo u.ls.length hu.lc, .slice hu.to u.ts.length hu.tc] 60))
           have HZ2 := Lib.hid hzZ
           obtain ⟨p0, p1, p2, p3, p4⟩ := five_cells hzZ
           obtain ⟨f0, f1, f2, f3, f4⟩ := five_free hzZ
           have lx := (Array.getElem?_eq_some_iff.1 hzZ).1
           clear hzZ
           have HII := Lib.hid iI
           clear iI bi hbq
           dsimp only [Tm.val, Tm.vals])
        | (go_at_call 78; have hC := A1.out (((wl.alloc (.cells #[.int .u8 u.k, .int .i64 u.n, .string u.s, .slice hu.lo u.ls.length hu.lc, .slice hu.to u.ts.length hu.tc] 60)).alloc (.cells #[.int .u8 0, .int .i64 0, .string ⟨#[]⟩, .slice none 0 0, .slice none 0 0] 60))) _ (Trm.go HB_1.out (Trm.go HBq1.out (below_two _ _ _))) hl (carry ILq.out (below_two _ _ _)) (new1of2 wl (.cells #[.int .u8 u.k, .int .i64 u.n, .string u.s, .slice hu.lo u.ls.length hu.lc, .slice hu.to u.ts.length hu.tc] 60) (.cells #[.int .u8 0, .int .i64 0, .string ⟨#[]⟩, .slice none 0 0, .slice none 0 0] 60)); (with_reducible refine hC.mono ?_); clear hC; rintro e wi ⟨h7, rfl, iI, bi⟩
           have hbq := Trm.go HBq1.out (Trm.go (below_two _ _ _) bi)
           have HBq2 := Lib.hid hbq
           have hzZ := Lvl.keep bi (new2 wl (.cells #[.int .u8 u.k, .int .i64 u.n, .string u.s, .slice hu.lo u.ls.length hu.lc, .slice hu.to u.ts.length hu.tc] 60) (.cells #[.int .u8 0, .int .i64 0, .string ⟨#[]⟩, .slice none 0 0, .slice none 0 0] 60))
           have HZ2 := Lib.hid hzZ
           obtain ⟨p0, p1, p2, p3, p4⟩ := five_cells hzZ
           obtain ⟨f0, f1, f2, f3, f4⟩ := five_free hzZ
           have lx := (Array.getElem?_eq_some_iff.1 hzZ).1
           clear hzZ
           have HII := Lib.hid iI
           clear iI bi hbq
           dsimp only [Tm.val, Tm.vals]))
      all_goals
        go_wp2_with fail
        go_meet
        first
          | (have _q := HZ2.out; exact cut_early HZ2.out (by have h0 := HBq0.out.size; have h1 := HBq1.out.size; have h2 := HBq2.out.size; omega) MO.out HBq2.out HII.out)
          | exact cut_late HBq2.out HII.out
    case rest =>
      clear HSQ
      obtain ⟨X3, hh3, rfl, rfl, hX, iA, hbc⟩ := hcut
      obtain ⟨w3, rfl⟩ : ∃ v, v = wc := ⟨_, rfl⟩
      clear cT0 cT1 cT2 cT3 cT4 cU0 cU1 cU2 cU3 cU4 lT lU
      have HB_2 := Lib.hid (Trm.go HB_1.out hbc)
      have XT_2 := Lib.hid (Lvl.keep hbc XT_1.out)
      have XU_2 := Lib.hid (Lvl.keep hbc XU_1.out)
      clear HB_1 XT_1 XU_1
      have XA_2 := Lib.hid hX
      have IA_2 := Lib.hid iA
      clear hX iA hbc
      obtain ⟨cU0, cU1, cU2, cU3, cU4⟩ := five_cells (show w3.heap[w.heap.size + 1]? = some (.cells #[.int .u8 u.k, .int .i64 u.n, .string u.s, .slice hu.lo u.ls.length hu.lc, .slice hu.to u.ts.length hu.tc] 60) from XU_2.out)
      have lU : w.heap.size + 1 < w3.heap.size := (Array.getElem?_eq_some_iff.1 XU_2.out).1
      go_wp2_with fail
      refine (HL.out _ HB_2.out).mono ?_
      rintro e v3 ⟨h3, rfl, i3, b3⟩
      clear cU0 cU1 cU2 cU3 cU4 lU
      have HB_3 := Lib.hid (Trm.go HB_2.out b3)
      have XT_3 := Lib.hid (Lvl.keep b3 XT_2.out)
      have XU_3 := Lib.hid (Lvl.keep b3 XU_2.out)
      have XA_3 := Lib.hid (Lvl.keep b3 XA_2.out)
      have IA_3 := Lib.hid (carry IA_2.out b3)
      clear HB_2 XT_2 XU_2 XA_2 IA_2
      have IP_3 := Lib.hid i3
      clear b3 i3
      dsimp only [Tm.val, Tm.vals]
      have e4 := below_one v3 (.cells (up.vals h3) 60)
      have HB_4 := Lib.hid (Trm.go HB_3.out e4)
      have XT_4 := Lib.hid (Lvl.keep e4 XT_3.out)
      have XU_4 := Lib.hid (Lvl.keep e4 XU_3.out)
      have XA_4 := Lib.hid (Lvl.keep e4 XA_3.out)
      have IA_4 := Lib.hid (carry IA_3.out e4)
      have IP_4 := Lib.hid (carry IP_3.out e4)
      have XP_4 := Lib.hid (World.alloc_heap_new v3 (.cells (up.vals h3) 60))
      clear e4
      clear HB_3 XT_3 XU_3 XA_3 IA_3 IP_3
      go_upto_region 5 with fail
      obtain ⟨wq7, hwc⟩ : ∃ wq, wq = v3.alloc (.cells #[.int .u8 up.k, .int .i64 up.n, .string up.s, .slice h3.lo up.ls.length h3.lc, .slice h3.to up.ts.length h3.tc] 60) := ⟨_, rfl⟩
      rw [← hwc]
      have hwc2 : v3.alloc (.cells (up.vals h3) 60) = wq7 := hwc.symm
      rw [hwc2] at HB_4 XT_4 XU_4 XA_4 XP_4 IA_4 IP_4
      clear hwc hwc2
      have ho2 : o.ts.length = 2 := by rw [HO.out]; rfl
      obtain ⟨ba, oa, hto, hba, ha2, hca, hia⟩ := (IA_4.out).kid 1 (by rw [ho2]; decide)
      have hoa : o.ts[1]'(by rw [ho2]; decide) = a := by simp [HO.out, t2, Tm.ts]
      rw [hoa] at hca hia
      have HCA_4 := Lib.hid hca
      have IQ_4 := Lib.hid hia
      have HBA_4 := Lib.hid hba
      clear hca hia hba hoa
      have XL := (show wq7.heap[X3]? = some (.cells #[.int .u8 o.k, .int .i64 o.n, .string o.s, .slice hh3.lo o.ls.length hh3.lc, .slice (some ⟨ba, oa, none⟩) 2 hh3.tc] 60) from by
        have := XA_4.out
        unfold Tm.box Tm.vals at this
        rw [ho2, hto] at this
        exact this)
      have XL_4 := Lib.hid XL
      obtain ⟨cA0, cA1, cA2, cA3, cA4⟩ := five_cells XL
      clear XL hto
      go_wp2_with fail
      clear cA0 cA1 cA2 cA3 cA4 ho2 XA_4 IA_4
      obtain ⟨cT0, cT1, cT2, cT3, cT4⟩ := five_cells (show wq7.heap[w.heap.size]? = some (.cells #[.int .u8 t.k, .int .i64 t.n, .string t.s, .slice ht.lo t.ls.length ht.lc, .slice ht.to t.ts.length ht.tc] 60) from XT_4.out)
      have lT : w.heap.size < wq7.heap.size := (Array.getElem?_eq_some_iff.1 XT_4.out).1
      have HSQ := Lib.hid (fun (W : World) (hbq : Below wq7.heap.size wq7 W) => show Below wq7.heap.size wq7 W ∧ W.cell? ⟨w.heap.size, 0, none⟩ = some (.int .u8 t.k) ∧ W.cell? ⟨w.heap.size, 1, none⟩ = some (.int .i64 t.n) ∧ W.cell? ⟨w.heap.size, 2, none⟩ = some (.string t.s) ∧ W.cell? ⟨w.heap.size, 3, none⟩ = some (.slice ht.lo t.ls.length ht.lc) ∧ W.cell? ⟨w.heap.size, 4, none⟩ = some (.slice ht.to t.ts.length ht.tc) from ⟨hbq, (five_cells (show W.heap[w.heap.size]? = some (.cells #[.int .u8 t.k, .int .i64 t.n, .string t.s, .slice ht.lo t.ls.length ht.lc, .slice ht.to t.ts.length ht.tc] 60) from Lvl.keep hbq XT_4.out)).1, (five_cells (show W.heap[w.heap.size]? = some (.cells #[.int .u8 t.k, .int .i64 t.n, .string t.s, .slice ht.lo t.ls.length ht.lc, .slice ht.to t.ts.length ht.tc] 60) from Lvl.keep hbq XT_4.out)).2.1, (five_cells (show W.heap[w.heap.size]? = some (.cells #[.int .u8 t.k, .int .i64 t.n, .string t.s, .slice ht.lo t.ls.length ht.lc, .slice ht.to t.ts.length ht.tc] 60) from Lvl.keep hbq XT_4.out)).2.2.1, (five_cells (show W.heap[w.heap.size]? = some (.cells #[.int .u8 t.k, .int .i64 t.n, .string t.s, .slice ht.lo t.ls.length ht.lc, .slice ht.to t.ts.length ht.tc] 60) from Lvl.keep hbq XT_4.out)).2.2.2.1, (five_cells (show W.heap[w.heap.size]? = some (.cells #[.int .u8 t.k, .int .i64 t.n, .string t.s, .slice ht.lo t.ls.length ht.lc, .slice ht.to t.ts.length ht.tc] 60) from Lvl.keep hbq XT_4.out)).2.2.2.2⟩)
      go_cut [9, 10] (fun s1 s2 wx => CutN wq7 nm s1 s2 wx)
      case first =>
        clear A1 HL A4 A5 A6 HSB HLL HFX HZP MO MB QFX QSZ HO MT MU ZU HFR HFU HZU HIN HIN2
        go_region_held3 (fun w' => Below wq7.heap.size wq7 w' ∧ w'.cell? ⟨w.heap.size, 0, none⟩ = some (.int .u8 t.k) ∧ w'.cell? ⟨w.heap.size, 1, none⟩ = some (.int .i64 t.n) ∧ w'.cell? ⟨w.heap.size, 2, none⟩ = some (.string t.s) ∧ w'.cell? ⟨w.heap.size, 3, none⟩ = some (.slice ht.lo t.ls.length ht.lc) ∧ w'.cell? ⟨w.heap.size, 4, none⟩ = some (.slice ht.to t.ts.length ht.tc)) (first | (have _q := HZ1.out; first | (with_reducible exact HSQ.out _ HBq1.out) | exact HSQ.out _ (putT_below HBq1.out (by have h0 := HBq0.out.size; have h1 := HBq1.out.size; omega) _ _ _ _ _)) | (with_reducible exact HSQ.out _ (Below.refl _ _).drew) | (with_reducible exact HSQ.out _ (below_one _ _).drew) | (with_reducible exact HSQ.out _ (below_two _ _ _).drew) | (with_reducible exact HSQ.out _ HBq1.out) | (with_reducible exact HSQ.out _ (Trm.go HBq1.out (below_one _ _))) | (with_reducible exact HSQ.out _ (Trm.go HBq1.out (below_two _ _ _))) | (with_reducible exact HSQ.out _ HBq0.out) | (with_reducible exact HSQ.out _ (Trm.go HBq0.out (below_one _ _))) | (with_reducible exact HSQ.out _ (Trm.go HBq0.out (below_two _ _ _))))
          (first
          | (go_at_call 81; have hC := HCC.out (wq7.drew); (with_reducible refine hC.mono ?_); clear hC; rintro e wv ⟨hv, rfl, iv, bv⟩
             have bv0 : Below (wq7).heap.size (wq7) wv := Lvl.undrew bv
             have hbq := Trm.go (Below.refl _ _) bv0
             have HBq0 := Lib.hid hbq
             have hxT := Lvl.keep hbq XT_4.out
             obtain ⟨cT0, cT1, cT2, cT3, cT4⟩ := five_cells (show wv.heap[w.heap.size]? = some (.cells #[.int .u8 t.k, .int .i64 t.n, .string t.s, .slice ht.lo t.ls.length ht.lc, .slice ht.to t.ts.length ht.tc] 60) from hxT)
             have lT : w.heap.size < wv.heap.size := (Array.getElem?_eq_some_iff.1 hxT).1
             clear hxT
             have IVq := Lib.hid iv
             clear iv bv hbq bv0
             dsimp only [Tm.val, Tm.vals])
          | (go_at_call 81; have hC := HCC.out ((wq7.alloc (.cells #[.int .u8 0, .int .i64 0, .string ⟨#[]⟩, .slice none 0 0, .slice none 0 0] 60)).drew); (with_reducible refine hC.mono ?_); clear hC; rintro e wv ⟨hv, rfl, iv, bv⟩
             have bv0 : Below ((wq7.alloc (.cells #[.int .u8 0, .int .i64 0, .string ⟨#[]⟩, .slice none 0 0, .slice none 0 0] 60))).heap.size ((wq7.alloc (.cells #[.int .u8 0, .int .i64 0, .string ⟨#[]⟩, .slice none 0 0, .slice none 0 0] 60))) wv := Lvl.undrew bv
             have hbq := Trm.go (below_one _ _) bv0
             have HBq0 := Lib.hid hbq
             have hzZ := Lvl.keep bv0 (World.alloc_heap_new wq7 (.cells #[.int .u8 0, .int .i64 0, .string ⟨#[]⟩, .slice none 0 0, .slice none 0 0] 60))
             have HZ0 := Lib.hid hzZ
             clear hzZ
             have hxT := Lvl.keep hbq XT_4.out
             obtain ⟨cT0, cT1, cT2, cT3, cT4⟩ := five_cells (show wv.heap[w.heap.size]? = some (.cells #[.int .u8 t.k, .int .i64 t.n, .string t.s, .slice ht.lo t.ls.length ht.lc, .slice ht.to t.ts.length ht.tc] 60) from hxT)
             have lT : w.heap.size < wv.heap.size := (Array.getElem?_eq_some_iff.1 hxT).1
             clear hxT
             have IVq := Lib.hid iv
             clear iv bv hbq bv0
             dsimp only [Tm.val, Tm.vals])
          | (have _q0 := HZ0.out; go_at_call 78; have hC := A3.out ((wv.alloc (.cells #[.int .u8 (tC cF).k, .int .i64 (tC cF).n, .string (tC cF).s, .slice hv.lo (tC cF).ls.length hv.lc, .slice hv.to (tC cF).ts.length hv.tc] 60))) _ (Trm.go HB_4.out (Trm.go HBq0.out (below_one _ _))) hv (carry IVq.out (below_one _ _)) (World.alloc_heap_new wv (.cells #[.int .u8 (tC cF).k, .int .i64 (tC cF).n, .string (tC cF).s, .slice hv.lo (tC cF).ls.length hv.lc, .slice hv.to (tC cF).ts.length hv.tc] 60)); (with_reducible refine hC.mono ?_); clear hC; rintro e wi ⟨h7, rfl, iI, bi⟩
             have hbq := Trm.go HBq0.out (Trm.go (below_one _ _) bi)
             have HBq1 := Lib.hid hbq
             have hzZ := Lvl.keep (Trm.go (below_one _ _) bi) HZ0.out
             have HZ1 := Lib.hid hzZ
             obtain ⟨p0, p1, p2, p3, p4⟩ := five_cells hzZ
             obtain ⟨f0, f1, f2, f3, f4⟩ := five_free hzZ
             have lx := (Array.getElem?_eq_some_iff.1 hzZ).1
             clear hzZ
             have HII := Lib.hid iI
             clear iI bi hbq
             dsimp only [Tm.val, Tm.vals])
          | (go_at_call 78; have hC := A3.out ((wv.alloc (.cells #[.int .u8 (tC cF).k, .int .i64 (tC cF).n, .string (tC cF).s, .slice hv.lo (tC cF).ls.length hv.lc, .slice hv.to (tC cF).ts.length hv.tc] 60))) _ (Trm.go HB_4.out (Trm.go HBq0.out (below_one _ _))) hv (carry IVq.out (below_one _ _)) (World.alloc_heap_new wv (.cells #[.int .u8 (tC cF).k, .int .i64 (tC cF).n, .string (tC cF).s, .slice hv.lo (tC cF).ls.length hv.lc, .slice hv.to (tC cF).ts.length hv.tc] 60)); (with_reducible refine hC.mono ?_); clear hC; rintro e wi ⟨h7, rfl, iI, bi⟩
             have hbq := Trm.go HBq0.out (Trm.go (below_one _ _) bi)
             have HBq1 := Lib.hid hbq
             have HII := Lib.hid iI
             clear iI bi hbq
             dsimp only [Tm.val, Tm.vals])
          | (go_at_call 78; have hC := A3.out (((wv.alloc (.cells #[.int .u8 0, .int .i64 0, .string ⟨#[]⟩, .slice none 0 0, .slice none 0 0] 60)).alloc (.cells #[.int .u8 (tC cF).k, .int .i64 (tC cF).n, .string (tC cF).s, .slice hv.lo (tC cF).ls.length hv.lc, .slice hv.to (tC cF).ts.length hv.tc] 60))) _ (Trm.go HB_4.out (Trm.go HBq0.out (below_two _ _ _))) hv (carry IVq.out (below_two _ _ _)) (new2 wv (.cells #[.int .u8 0, .int .i64 0, .string ⟨#[]⟩, .slice none 0 0, .slice none 0 0] 60) (.cells #[.int .u8 (tC cF).k, .int .i64 (tC cF).n, .string (tC cF).s, .slice hv.lo (tC cF).ls.length hv.lc, .slice hv.to (tC cF).ts.length hv.tc] 60)); (with_reducible refine hC.mono ?_); clear hC; rintro e wi ⟨h7, rfl, iI, bi⟩
             have hbq := Trm.go HBq0.out (Trm.go (below_two _ _ _) bi)
             have HBq1 := Lib.hid hbq
             have hzZ := Lvl.keep bi (new1of2 wv (.cells #[.int .u8 0, .int .i64 0, .string ⟨#[]⟩, .slice none 0 0, .slice none 0 0] 60) (.cells #[.int .u8 (tC cF).k, .int .i64 (tC cF).n, .string (tC cF).s, .slice hv.lo (tC cF).ls.length hv.lc, .slice hv.to (tC cF).ts.length hv.tc] 60))
             have HZ1 := Lib.hid hzZ
             obtain ⟨p0, p1, p2, p3, p4⟩ := five_cells hzZ
             obtain ⟨f0, f1, f2, f3, f4⟩ := five_free hzZ
             have lx := (Array.getElem?_eq_some_iff.1 hzZ).1
             clear hzZ
             have HII := Lib.hid iI
             clear iI bi hbq
             dsimp only [Tm.val, Tm.vals])
          | (go_at_call 78; have hC := A3.out (((wv.alloc (.cells #[.int .u8 (tC cF).k, .int .i64 (tC cF).n, .string (tC cF).s, .slice hv.lo (tC cF).ls.length hv.lc, .slice hv.to (tC cF).ts.length hv.tc] 60)).alloc (.cells #[.int .u8 0, .int .i64 0, .string ⟨#[]⟩, .slice none 0 0, .slice none 0 0] 60))) _ (Trm.go HB_4.out (Trm.go HBq0.out (below_two _ _ _))) hv (carry IVq.out (below_two _ _ _)) (new1of2 wv (.cells #[.int .u8 (tC cF).k, .int .i64 (tC cF).n, .string (tC cF).s, .slice hv.lo (tC cF).ls.length hv.lc, .slice hv.to (tC cF).ts.length hv.tc] 60) (.cells #[.int .u8 0, .int .i64 0, .string ⟨#[]⟩, .slice none 0 0, .slice none 0 0] 60)); (with_reducible refine hC.mono ?_); clear hC; rintro e wi ⟨h7, rfl, iI, bi⟩
             have hbq := Trm.go HBq0.out (Trm.go (below_two _ _ _) bi)
             have HBq1 := Lib.hid hbq
             have hzZ := Lvl.keep bi (new2 wv (.cells #[.int .u8 (tC cF).k, .int .i64 (tC cF).n, .string (tC cF).s, .slice hv.lo (tC cF).ls.length hv.lc, .slice hv.to (tC cF).ts.length hv.tc] 60) (.cells #[.int .u8 0, .int .i64 0, .string ⟨#[]⟩, .slice none 0 0, .slice none 0 0] 60))
             have HZ1 := Lib.hid hzZ
             obtain ⟨p0, p1, p2, p3, p4⟩ := five_cells hzZ
             obtain ⟨f0, f1, f2, f3, f4⟩ := five_free hzZ
             have lx := (Array.getElem?_eq_some_iff.1 hzZ).1
             clear hzZ
             have HII := Lib.hid iI
             clear iI bi hbq
             dsimp only [Tm.val, Tm.vals]))
        all_goals
          go_wp2_with fail
          go_meet
          first
            | (have _q := HZ1.out; exact cut_early HZ1.out (by have h0 := HBq0.out.size; have h1 := HBq1.out.size; omega) MNM.out HBq1.out HII.out)
            | exact cut_late HBq1.out HII.out
      case rest =>
        clear HSQ
        obtain ⟨X7, hh7, rfl, rfl, hX, iA, hbc⟩ := hcut
        obtain ⟨w7, rfl⟩ : ∃ v, v = wc := ⟨_, rfl⟩
        clear cT0 cT1 cT2 cT3 cT4 lT
        have HB_5 := Lib.hid (Trm.go HB_4.out hbc)
        have XT_5 := Lib.hid (Lvl.keep hbc XT_4.out)
        have XU_5 := Lib.hid (Lvl.keep hbc XU_4.out)
        have XP_5 := Lib.hid (Lvl.keep hbc XP_4.out)
        have XL_5 := Lib.hid (Lvl.keep hbc XL_4.out)
        have IP_5 := Lib.hid (carry IP_4.out hbc)
        have IQ_5 := Lib.hid (carry IQ_4.out hbc)
        have HBA_5 := Lib.hid (Nat.lt_of_lt_of_le HBA_4.out (Below.size hbc))
        have HCA_5 := Lib.hid (HCA_4.out.below hbc HBA_4.out)
        clear HB_4 XT_4 XU_4 XP_4 XL_4 IP_4 IQ_4 HBA_4 HCA_4
        have XN_5 := Lib.hid hX
        have IN_5 := Lib.hid iA
        clear hX iA hbc
        obtain ⟨cN0, cN1, cN2, cN3, cN4⟩ := five_cells (show w7.heap[X7]? = some (.cells #[.int .u8 nm.k, .int .i64 nm.n, .string nm.s, .slice hh7.lo nm.ls.length hh7.lc, .slice hh7.to nm.ts.length hh7.tc] 60) from XN_5.out)
        have lN : X7 < w7.heap.size := (Array.getElem?_eq_some_iff.1 XN_5.out).1
        obtain ⟨cU0, cU1, cU2, cU3, cU4⟩ := five_cells (show w7.heap[w.heap.size + 1]? = some (.cells #[.int .u8 u.k, .int .i64 u.n, .string u.s, .slice hu.lo u.ls.length hu.lc, .slice hu.to u.ts.length hu.tc] 60) from XU_5.out)
        have lU : w.heap.size + 1 < w7.heap.size := (Array.getElem?_eq_some_iff.1 XU_5.out).1
        have es := below_one w7 (.cells #[.int .u8 u.k, .int .i64 u.n, .string u.s, .slice hu.lo u.ls.length hu.lc, .slice hu.to u.ts.length hu.tc] 60)
        have HB_6 := Lib.hid (Trm.go HB_5.out es)
        have XT_6 := Lib.hid (Lvl.keep es XT_5.out)
        have XU_6 := Lib.hid (Lvl.keep es XU_5.out)
        have XP_6 := Lib.hid (Lvl.keep es XP_5.out)
        have XL_6 := Lib.hid (Lvl.keep es XL_5.out)
        have XN_6 := Lib.hid (Lvl.keep es XN_5.out)
        have IP_6 := Lib.hid (carry IP_5.out es)
        have IQ_6 := Lib.hid (carry IQ_5.out es)
        have IN_6 := Lib.hid (carry IN_5.out es)
        have HBA_6 := Lib.hid (Nat.lt_of_lt_of_le HBA_5.out (Below.size es))
        have HCA_6 := Lib.hid (HCA_5.out.below es HBA_5.out)
        have XG := Lib.hid (World.alloc_heap_new w7 (.cells #[.int .u8 u.k, .int .i64 u.n, .string u.s, .slice hu.lo u.ls.length hu.lc, .slice hu.to u.ts.length hu.tc] 60))
        clear es
        clear HB_5 XT_5 XU_5 XP_5 XL_5 XN_5 IP_5 IQ_5 IN_5 HBA_5 HCA_5
        go_wp2_with fail
        refine (A4.out _ w7.heap.size HB_6.out hh7 IN_6.out XG.out).mono ?_
        rintro e v7 ⟨h7, rfl, i7, b7⟩
        clear cN0 cN1 cN2 cN3 cN4 cU0 cU1 cU2 cU3 cU4 lN lU
        have HB_7 := Lib.hid (Trm.go HB_6.out b7)
        have XT_7 := Lib.hid (Lvl.keep b7 XT_6.out)
        have XU_7 := Lib.hid (Lvl.keep b7 XU_6.out)
        have XP_7 := Lib.hid (Lvl.keep b7 XP_6.out)
        have XL_7 := Lib.hid (Lvl.keep b7 XL_6.out)
        have XN_7 := Lib.hid (Lvl.keep b7 XN_6.out)
        have IP_7 := Lib.hid (carry IP_6.out b7)
        have IQ_7 := Lib.hid (carry IQ_6.out b7)
        have IN_7 := Lib.hid (carry IN_6.out b7)
        have HBA_7 := Lib.hid (Nat.lt_of_lt_of_le HBA_6.out (Below.size b7))
        have HCA_7 := Lib.hid (HCA_6.out.below b7 HBA_6.out)
        clear HB_6 XT_6 XU_6 XP_6 XL_6 XN_6 IP_6 IQ_6 IN_6 HBA_6 HCA_6
        have IB_7 := Lib.hid i7
        clear b7 i7
        dsimp only [Tm.val, Tm.vals]
        have e8 := below_one v7 (.cells (b.vals h7) 60)
        have HB_8 := Lib.hid (Trm.go HB_7.out e8)
        have XT_8 := Lib.hid (Lvl.keep e8 XT_7.out)
        have XU_8 := Lib.hid (Lvl.keep e8 XU_7.out)
        have XP_8 := Lib.hid (Lvl.keep e8 XP_7.out)
        have XL_8 := Lib.hid (Lvl.keep e8 XL_7.out)
        have XN_8 := Lib.hid (Lvl.keep e8 XN_7.out)
        have IP_8 := Lib.hid (carry IP_7.out e8)
        have IQ_8 := Lib.hid (carry IQ_7.out e8)
        have IN_8 := Lib.hid (carry IN_7.out e8)
        have IB_8 := Lib.hid (carry IB_7.out e8)
        have HBA_8 := Lib.hid (Nat.lt_of_lt_of_le HBA_7.out (Below.size e8))
        have HCA_8 := Lib.hid (HCA_7.out.below e8 HBA_7.out)
        have XB_8 := Lib.hid (World.alloc_heap_new v7 (.cells (b.vals h7) 60))
        clear e8
        clear HB_7 XT_7 XU_7 XP_7 XL_7 XN_7 IP_7 IQ_7 IN_7 IB_7 HBA_7 HCA_7
        clear XG
        go_wp2_with fail
        obtain ⟨wq9, hwc⟩ : ∃ wq, wq = v7.alloc (.cells #[.int .u8 b.k, .int .i64 b.n, .string b.s, .slice h7.lo b.ls.length h7.lc, .slice h7.to b.ts.length h7.tc] 60) := ⟨_, rfl⟩
        rw [← hwc]
        have hwc2 : v7.alloc (.cells (b.vals h7) 60) = wq9 := hwc.symm
        rw [hwc2] at HB_8 XT_8 XU_8 XP_8 XL_8 XN_8 XB_8 IP_8 IQ_8 IN_8 IB_8 HBA_8 HCA_8
        clear hwc hwc2
        obtain ⟨cA0, cA1, cA2, cA3, cA4⟩ := five_cells XL_8.out
        obtain ⟨d0, d1, d2, d3, d4⟩ := HCA_8.out
        have HSQ := Lib.hid (fun (W : World) (hbq : Below wq9.heap.size wq9 W) => show Below wq9.heap.size wq9 W ∧ W.cell? ⟨X3, 4, none⟩ = some (.slice (some ⟨ba, oa, none⟩) 2 hh3.tc) ∧ W.cell? ⟨ba, oa + 5, none⟩ = some (.int .u8 a.k) ∧ W.cell? ⟨ba, oa + 5 + 1, none⟩ = some (.int .i64 a.n) ∧ W.cell? ⟨ba, oa + 5 + 2, none⟩ = some (.string a.s) ∧ W.cell? ⟨ba, oa + 5 + 3, none⟩ = some (.slice ha2.lo a.ls.length ha2.lc) ∧ W.cell? ⟨ba, oa + 5 + 4, none⟩ = some (.slice ha2.to a.ts.length ha2.tc) from ⟨hbq, (five_cells (Lvl.keep hbq XL_8.out)).2.2.2.2, (HCA_8.out.below hbq HBA_8.out).c0, (HCA_8.out.below hbq HBA_8.out).c1, (HCA_8.out.below hbq HBA_8.out).c2, (HCA_8.out.below hbq HBA_8.out).c3, (HCA_8.out.below hbq HBA_8.out).c4⟩)
        go_cut [13, 14] (fun s1 s2 wx => CutN wq9 b s1 s2 wx)
        case first =>
          clear A1 HL A3 A4 A6 HSB HLL HFX HZP MO MNM QFX QSZ HO MT MU ZU HFR HFU HZU HIN HIN2
          go_region_held3 (fun w' => Below wq9.heap.size wq9 w' ∧ w'.cell? ⟨X3, 4, none⟩ = some (.slice (some ⟨ba, oa, none⟩) 2 hh3.tc) ∧ w'.cell? ⟨ba, oa + 5, none⟩ = some (.int .u8 a.k) ∧ w'.cell? ⟨ba, oa + 5 + 1, none⟩ = some (.int .i64 a.n) ∧ w'.cell? ⟨ba, oa + 5 + 2, none⟩ = some (.string a.s) ∧ w'.cell? ⟨ba, oa + 5 + 3, none⟩ = some (.slice ha2.lo a.ls.length ha2.lc) ∧ w'.cell? ⟨ba, oa + 5 + 4, none⟩ = some (.slice ha2.to a.ts.length ha2.tc)) (first | (have _q := HZ1.out; first | (with_reducible exact HSQ.out _ HBq1.out) | exact HSQ.out _ (putT_below HBq1.out (by have h0 := HBq0.out.size; have h1 := HBq1.out.size; omega) _ _ _ _ _)) | (with_reducible exact HSQ.out _ (Below.refl _ _).drew) | (with_reducible exact HSQ.out _ (below_one _ _).drew) | (with_reducible exact HSQ.out _ (below_two _ _ _).drew) | (with_reducible exact HSQ.out _ HBq1.out) | (with_reducible exact HSQ.out _ (Trm.go HBq1.out (below_one _ _))) | (with_reducible exact HSQ.out _ (Trm.go HBq1.out (below_two _ _ _))) | (with_reducible exact HSQ.out _ HBq0.out) | (with_reducible exact HSQ.out _ (Trm.go HBq0.out (below_one _ _))) | (with_reducible exact HSQ.out _ (Trm.go HBq0.out (below_two _ _ _))))
            (first
            | (go_at_call 81; have hC := HCC.out (wq9.drew); (with_reducible refine hC.mono ?_); clear hC; rintro e wv ⟨hv, rfl, iv, bv⟩
               have bv0 : Below (wq9).heap.size (wq9) wv := Lvl.undrew bv
               have hbq := Trm.go (Below.refl _ _) bv0
               have HBq0 := Lib.hid hbq
               obtain ⟨cA0, cA1, cA2, cA3, cA4⟩ := five_cells (Lvl.keep hbq XL_8.out)
               obtain ⟨d0, d1, d2, d3, d4⟩ := HCA_8.out.below hbq HBA_8.out
               have IVq := Lib.hid iv
               clear iv bv hbq bv0
               dsimp only [Tm.val, Tm.vals])
            | (go_at_call 81; have hC := HCC.out ((wq9.alloc (.cells #[.int .u8 0, .int .i64 0, .string ⟨#[]⟩, .slice none 0 0, .slice none 0 0] 60)).drew); (with_reducible refine hC.mono ?_); clear hC; rintro e wv ⟨hv, rfl, iv, bv⟩
               have bv0 : Below ((wq9.alloc (.cells #[.int .u8 0, .int .i64 0, .string ⟨#[]⟩, .slice none 0 0, .slice none 0 0] 60))).heap.size ((wq9.alloc (.cells #[.int .u8 0, .int .i64 0, .string ⟨#[]⟩, .slice none 0 0, .slice none 0 0] 60))) wv := Lvl.undrew bv
               have hbq := Trm.go (below_one _ _) bv0
               have HBq0 := Lib.hid hbq
               have hzZ := Lvl.keep bv0 (World.alloc_heap_new wq9 (.cells #[.int .u8 0, .int .i64 0, .string ⟨#[]⟩, .slice none 0 0, .slice none 0 0] 60))
               have HZ0 := Lib.hid hzZ
               clear hzZ
               obtain ⟨cA0, cA1, cA2, cA3, cA4⟩ := five_cells (Lvl.keep hbq XL_8.out)
               obtain ⟨d0, d1, d2, d3, d4⟩ := HCA_8.out.below hbq HBA_8.out
               have IVq := Lib.hid iv
               clear iv bv hbq bv0
               dsimp only [Tm.val, Tm.vals])
            | (have _q0 := HZ0.out; go_at_call 78; have hC := A5.out ((wv.alloc (.cells #[.int .u8 (tC cF).k, .int .i64 (tC cF).n, .string (tC cF).s, .slice hv.lo (tC cF).ls.length hv.lc, .slice hv.to (tC cF).ts.length hv.tc] 60))) _ (Trm.go HB_8.out (Trm.go HBq0.out (below_one _ _))) ha2 (carry IQ_8.out (Trm.go HBq0.out (below_one _ _))) hv (carry IVq.out (below_one _ _)) (World.alloc_heap_new wv (.cells #[.int .u8 (tC cF).k, .int .i64 (tC cF).n, .string (tC cF).s, .slice hv.lo (tC cF).ls.length hv.lc, .slice hv.to (tC cF).ts.length hv.tc] 60)); (with_reducible refine hC.mono ?_); clear hC; rintro e wi ⟨h7, rfl, iI, bi⟩
               have hbq := Trm.go HBq0.out (Trm.go (below_one _ _) bi)
               have HBq1 := Lib.hid hbq
               have hzZ := Lvl.keep (Trm.go (below_one _ _) bi) HZ0.out
               have HZ1 := Lib.hid hzZ
               obtain ⟨p0, p1, p2, p3, p4⟩ := five_cells hzZ
               obtain ⟨f0, f1, f2, f3, f4⟩ := five_free hzZ
               have lx := (Array.getElem?_eq_some_iff.1 hzZ).1
               clear hzZ
               have HII := Lib.hid iI
               clear iI bi hbq
               dsimp only [Tm.val, Tm.vals])
            | (go_at_call 78; have hC := A5.out ((wv.alloc (.cells #[.int .u8 (tC cF).k, .int .i64 (tC cF).n, .string (tC cF).s, .slice hv.lo (tC cF).ls.length hv.lc, .slice hv.to (tC cF).ts.length hv.tc] 60))) _ (Trm.go HB_8.out (Trm.go HBq0.out (below_one _ _))) ha2 (carry IQ_8.out (Trm.go HBq0.out (below_one _ _))) hv (carry IVq.out (below_one _ _)) (World.alloc_heap_new wv (.cells #[.int .u8 (tC cF).k, .int .i64 (tC cF).n, .string (tC cF).s, .slice hv.lo (tC cF).ls.length hv.lc, .slice hv.to (tC cF).ts.length hv.tc] 60)); (with_reducible refine hC.mono ?_); clear hC; rintro e wi ⟨h7, rfl, iI, bi⟩
               have hbq := Trm.go HBq0.out (Trm.go (below_one _ _) bi)
               have HBq1 := Lib.hid hbq
               have HII := Lib.hid iI
               clear iI bi hbq
               dsimp only [Tm.val, Tm.vals])
            | (go_at_call 78; have hC := A5.out (((wv.alloc (.cells #[.int .u8 0, .int .i64 0, .string ⟨#[]⟩, .slice none 0 0, .slice none 0 0] 60)).alloc (.cells #[.int .u8 (tC cF).k, .int .i64 (tC cF).n, .string (tC cF).s, .slice hv.lo (tC cF).ls.length hv.lc, .slice hv.to (tC cF).ts.length hv.tc] 60))) _ (Trm.go HB_8.out (Trm.go HBq0.out (below_two _ _ _))) ha2 (carry IQ_8.out (Trm.go HBq0.out (below_two _ _ _))) hv (carry IVq.out (below_two _ _ _)) (new2 wv (.cells #[.int .u8 0, .int .i64 0, .string ⟨#[]⟩, .slice none 0 0, .slice none 0 0] 60) (.cells #[.int .u8 (tC cF).k, .int .i64 (tC cF).n, .string (tC cF).s, .slice hv.lo (tC cF).ls.length hv.lc, .slice hv.to (tC cF).ts.length hv.tc] 60)); (with_reducible refine hC.mono ?_); clear hC; rintro e wi ⟨h7, rfl, iI, bi⟩
               have hbq := Trm.go HBq0.out (Trm.go (below_two _ _ _) bi)
               have HBq1 := Lib.hid hbq
               have hzZ := Lvl.keep bi (new1of2 wv (.cells #[.int .u8 0, .int .i64 0, .string ⟨#[]⟩, .slice none 0 0, .slice none 0 0] 60) (.cells #[.int .u8 (tC cF).k, .int .i64 (tC cF).n, .string (tC cF).s, .slice hv.lo (tC cF).ls.length hv.lc, .slice hv.to (tC cF).ts.length hv.tc] 60))
               have HZ1 := Lib.hid hzZ
               obtain ⟨p0, p1, p2, p3, p4⟩ := five_cells hzZ
               obtain ⟨f0, f1, f2, f3, f4⟩ := five_free hzZ
               have lx := (Array.getElem?_eq_some_iff.1 hzZ).1
               clear hzZ
               have HII := Lib.hid iI
               clear iI bi hbq
               dsimp only [Tm.val, Tm.vals])
            | (go_at_call 78; have hC := A5.out (((wv.alloc (.cells #[.int .u8 (tC cF).k, .int .i64 (tC cF).n, .string (tC cF).s, .slice hv.lo (tC cF).ls.length hv.lc, .slice hv.to (tC cF).ts.length hv.tc] 60)).alloc (.cells #[.int .u8 0, .int .i64 0, .string ⟨#[]⟩, .slice none 0 0, .slice none 0 0] 60))) _ (Trm.go HB_8.out (Trm.go HBq0.out (below_two _ _ _))) ha2 (carry IQ_8.out (Trm.go HBq0.out (below_two _ _ _))) hv (carry IVq.out (below_two _ _ _)) (new1of2 wv (.cells #[.int .u8 (tC cF).k, .int .i64 (tC cF).n, .string (tC cF).s, .slice hv.lo (tC cF).ls.length hv.lc, .slice hv.to (tC cF).ts.length hv.tc] 60) (.cells #[.int .u8 0, .int .i64 0, .string ⟨#[]⟩, .slice none 0 0, .slice none 0 0] 60)); (with_reducible refine hC.mono ?_); clear hC; rintro e wi ⟨h7, rfl, iI, bi⟩
               have hbq := Trm.go HBq0.out (Trm.go (below_two _ _ _) bi)
               have HBq1 := Lib.hid hbq
               have hzZ := Lvl.keep bi (new2 wv (.cells #[.int .u8 (tC cF).k, .int .i64 (tC cF).n, .string (tC cF).s, .slice hv.lo (tC cF).ls.length hv.lc, .slice hv.to (tC cF).ts.length hv.tc] 60) (.cells #[.int .u8 0, .int .i64 0, .string ⟨#[]⟩, .slice none 0 0, .slice none 0 0] 60))
               have HZ1 := Lib.hid hzZ
               obtain ⟨p0, p1, p2, p3, p4⟩ := five_cells hzZ
               obtain ⟨f0, f1, f2, f3, f4⟩ := five_free hzZ
               have lx := (Array.getElem?_eq_some_iff.1 hzZ).1
               clear hzZ
               have HII := Lib.hid iI
               clear iI bi hbq
               dsimp only [Tm.val, Tm.vals]))
          all_goals
            go_wp2_with fail
            go_meet
            first
              | (have _q := HZ1.out; exact cut_early HZ1.out (by have h0 := HBq0.out.size; have h1 := HBq1.out.size; omega) MB.out HBq1.out HII.out)
              | exact cut_late HBq1.out HII.out
        case rest =>
          clear HSQ
          obtain ⟨X9, hh9, rfl, rfl, hX, iA, hbc⟩ := hcut
          obtain ⟨w9, rfl⟩ : ∃ v, v = wc := ⟨_, rfl⟩
          clear cA0 cA1 cA2 cA3 cA4 d0 d1 d2 d3 d4
          have HB_9 := Lib.hid (Trm.go HB_8.out hbc)
          have XT_9 := Lib.hid (Lvl.keep hbc XT_8.out)
          have XU_9 := Lib.hid (Lvl.keep hbc XU_8.out)
          have XP_9 := Lib.hid (Lvl.keep hbc XP_8.out)
          have XL_9 := Lib.hid (Lvl.keep hbc XL_8.out)
          have XN_9 := Lib.hid (Lvl.keep hbc XN_8.out)
          have XB_9 := Lib.hid (Lvl.keep hbc XB_8.out)
          have IP_9 := Lib.hid (carry IP_8.out hbc)
          have IQ_9 := Lib.hid (carry IQ_8.out hbc)
          have IN_9 := Lib.hid (carry IN_8.out hbc)
          have IB_9 := Lib.hid (carry IB_8.out hbc)
          have HBA_9 := Lib.hid (Nat.lt_of_lt_of_le HBA_8.out (Below.size hbc))
          have HCA_9 := Lib.hid (HCA_8.out.below hbc HBA_8.out)
          clear HB_8 XT_8 XU_8 XP_8 XL_8 XN_8 XB_8 IP_8 IQ_8 IN_8 IB_8 HBA_8 HCA_8
          have XK_9 := Lib.hid hX
          have IK_9 := Lib.hid iA
          clear hX iA hbc
          clear HCA_9 HBA_9
          obtain ⟨cB0, cB1, cB2, cB3, cB4⟩ := five_cells (show w9.heap[v7.heap.size]? = some (.cells #[.int .u8 b.k, .int .i64 b.n, .string b.s, .slice h7.lo b.ls.length h7.lc, .slice h7.to b.ts.length h7.tc] 60) from XB_9.out)
          have lB : v7.heap.size < w9.heap.size := (Array.getElem?_eq_some_iff.1 XB_9.out).1
          obtain ⟨cK0, cK1, cK2, cK3, cK4⟩ := five_cells (show w9.heap[X9]? = some (.cells #[.int .u8 b.k, .int .i64 b.n, .string b.s, .slice hh9.lo b.ls.length hh9.lc, .slice hh9.to b.ts.length hh9.tc] 60) from XK_9.out)
          have lK : X9 < w9.heap.size := (Array.getElem?_eq_some_iff.1 XK_9.out).1
          go_wp2_with fail
          refine (HSB.out _ h7 hh9 IB_9.out IK_9.out).mono ?_
          rintro e v10 ⟨rfl, b10⟩
          clear cB0 cB1 cB2 cB3 cB4 cK0 cK1 cK2 cK3 cK4 lB lK
          have HB_10 := Lib.hid (Trm.go HB_9.out b10)
          have XT_10 := Lib.hid (Lvl.keep b10 XT_9.out)
          have XU_10 := Lib.hid (Lvl.keep b10 XU_9.out)
          have XP_10 := Lib.hid (Lvl.keep b10 XP_9.out)
          have XB_10 := Lib.hid (Lvl.keep b10 XB_9.out)
          have XK_10 := Lib.hid (Lvl.keep b10 XK_9.out)
          have IP_10 := Lib.hid (carry IP_9.out b10)
          have IB_10 := Lib.hid (carry IB_9.out b10)
          have IK_10 := Lib.hid (carry IK_9.out b10)
          clear HB_9 XT_9 XU_9 XP_9 XB_9 XK_9 IP_9 IB_9 IK_9
          clear b10
          obtain ⟨cT0, cT1, cT2, cT3, cT4⟩ := five_cells (show v10.heap[w.heap.size]? = some (.cells #[.int .u8 t.k, .int .i64 t.n, .string t.s, .slice ht.lo t.ls.length ht.lc, .slice ht.to t.ts.length ht.tc] 60) from XT_10.out)
          have lT : w.heap.size < v10.heap.size := (Array.getElem?_eq_some_iff.1 XT_10.out).1
          have hmax := run_max
          have hw1 : IntKind.i64.wrap (t.free - 1) = t.free - 1 := IntWalk.i64_in _ (by omega)
          obtain ⟨M1, hM1⟩ : ∃ M1, max (t.free - 1) 0 = M1 := ⟨_, rfl⟩
          obtain ⟨M2, hM2⟩ : ∃ M2, max M1 u.free = M2 := ⟨_, rfl⟩
          have HQM : Hid (x.free ≤ M2) := Lib.hid (by rw [← hM2, ← hM1]; exact QFX.out)
          go_wp2_with fail
          refine (HFR.out _ MT.out HB_10.out).mono ?_
          rintro e v11 ⟨rfl, b11⟩
          clear cT0 cT1 cT2 cT3 cT4 lT
          have HB_11 := Lib.hid (Trm.go HB_10.out b11)
          have XT_11 := Lib.hid (Lvl.keep b11 XT_10.out)
          have XU_11 := Lib.hid (Lvl.keep b11 XU_10.out)
          have XP_11 := Lib.hid (Lvl.keep b11 XP_10.out)
          have IP_11 := Lib.hid (carry IP_10.out b11)
          clear HB_10 XT_10 XU_10 XP_10 IP_10
          clear b11
          obtain ⟨cT0, cT1, cT2, cT3, cT4⟩ := five_cells (show v11.heap[w.heap.size]? = some (.cells #[.int .u8 t.k, .int .i64 t.n, .string t.s, .slice ht.lo t.ls.length ht.lc, .slice ht.to t.ts.length ht.tc] 60) from XT_11.out)
          have lT : w.heap.size < v11.heap.size := (Array.getElem?_eq_some_iff.1 XT_11.out).1
          obtain ⟨cU0, cU1, cU2, cU3, cU4⟩ := five_cells (show v11.heap[w.heap.size + 1]? = some (.cells #[.int .u8 u.k, .int .i64 u.n, .string u.s, .slice hu.lo u.ls.length hu.lc, .slice hu.to u.ts.length hu.tc] 60) from XU_11.out)
          have lU : w.heap.size + 1 < v11.heap.size := (Array.getElem?_eq_some_iff.1 XU_11.out).1
          have es := below_one v11 (.cells #[.int .u8 u.k, .int .i64 u.n, .string u.s, .slice hu.lo u.ls.length hu.lc, .slice hu.to u.ts.length hu.tc] 60)
          have HB_12 := Lib.hid (Trm.go HB_11.out es)
          have XT_12 := Lib.hid (Lvl.keep es XT_11.out)
          have XU_12 := Lib.hid (Lvl.keep es XU_11.out)
          have XP_12 := Lib.hid (Lvl.keep es XP_11.out)
          have IP_12 := Lib.hid (carry IP_11.out es)
          have XG := Lib.hid (World.alloc_heap_new v11 (.cells #[.int .u8 u.k, .int .i64 u.n, .string u.s, .slice hu.lo u.ls.length hu.lc, .slice hu.to u.ts.length hu.tc] 60))
          clear es
          clear HB_11 XT_11 XU_11 XP_11 IP_11
          go_wp2_with fail
          refine (A6.out _ v11.heap.size HB_12.out XG.out).mono ?_
          rintro e v13 ⟨h13, rfl, i13, b13⟩
          clear cT0 cT1 cT2 cT3 cT4 cU0 cU1 cU2 cU3 cU4 lT lU
          have HB_13 := Lib.hid (Trm.go HB_12.out b13)
          have XT_13 := Lib.hid (Lvl.keep b13 XT_12.out)
          have XU_13 := Lib.hid (Lvl.keep b13 XU_12.out)
          have XP_13 := Lib.hid (Lvl.keep b13 XP_12.out)
          have IP_13 := Lib.hid (carry IP_12.out b13)
          clear HB_12 XT_12 XU_12 XP_12 IP_12
          have IX_13 := Lib.hid i13
          clear b13 i13
          dsimp only [Tm.val, Tm.vals]
          have e14 := below_one v13 (.cells (x.vals h13) 60)
          have HB_14 := Lib.hid (Trm.go HB_13.out e14)
          have XT_14 := Lib.hid (Lvl.keep e14 XT_13.out)
          have XU_14 := Lib.hid (Lvl.keep e14 XU_13.out)
          have XP_14 := Lib.hid (Lvl.keep e14 XP_13.out)
          have IP_14 := Lib.hid (carry IP_13.out e14)
          have IX_14 := Lib.hid (carry IX_13.out e14)
          have XX_14 := Lib.hid (World.alloc_heap_new v13 (.cells (x.vals h13) 60))
          clear e14
          clear HB_13 XT_13 XU_13 XP_13 IP_13 IX_13
          clear XG
          go_upto_region 14 with fail
          obtain ⟨wq14, hwc⟩ : ∃ wq, wq = v13.alloc (.cells #[.int .u8 x.k, .int .i64 x.n, .string x.s, .slice h13.lo x.ls.length h13.lc, .slice h13.to x.ts.length h13.tc] 60) := ⟨_, rfl⟩
          rw [← hwc]
          have hwc2 : v13.alloc (.cells (x.vals h13) 60) = wq14 := hwc.symm
          rw [hwc2] at HB_14 XT_14 XU_14 XP_14 XX_14 IP_14 IX_14
          clear hwc hwc2
          have hd1 : decide (x.free ≤ M2) = true := by simpa using HQM.out
          have hd2 : (up.size == u.size) = true := by simpa using QSZ.out
          have HSQ := Lib.hid (fun (W : World) (hbq : Below wq14.heap.size wq14 W) => show Below wq14.heap.size wq14 W ∧ W.cell? ⟨v13.heap.size, 0, none⟩ = some (.int .u8 x.k) ∧ W.cell? ⟨v13.heap.size, 1, none⟩ = some (.int .i64 x.n) ∧ W.cell? ⟨v13.heap.size, 2, none⟩ = some (.string x.s) ∧ W.cell? ⟨v13.heap.size, 3, none⟩ = some (.slice h13.lo x.ls.length h13.lc) ∧ W.cell? ⟨v13.heap.size, 4, none⟩ = some (.slice h13.to x.ts.length h13.tc) ∧ W.cell? ⟨w.heap.size + 1, 0, none⟩ = some (.int .u8 u.k) ∧ W.cell? ⟨w.heap.size + 1, 1, none⟩ = some (.int .i64 u.n) ∧ W.cell? ⟨w.heap.size + 1, 2, none⟩ = some (.string u.s) ∧ W.cell? ⟨w.heap.size + 1, 3, none⟩ = some (.slice hu.lo u.ls.length hu.lc) ∧ W.cell? ⟨w.heap.size + 1, 4, none⟩ = some (.slice hu.to u.ts.length hu.tc) ∧ W.cell? ⟨v3.heap.size, 0, none⟩ = some (.int .u8 up.k) ∧ W.cell? ⟨v3.heap.size, 1, none⟩ = some (.int .i64 up.n) ∧ W.cell? ⟨v3.heap.size, 2, none⟩ = some (.string up.s) ∧ W.cell? ⟨v3.heap.size, 3, none⟩ = some (.slice h3.lo up.ls.length h3.lc) ∧ W.cell? ⟨v3.heap.size, 4, none⟩ = some (.slice h3.to up.ts.length h3.tc) from ⟨hbq, (five_cells (show W.heap[v13.heap.size]? = some (.cells #[.int .u8 x.k, .int .i64 x.n, .string x.s, .slice h13.lo x.ls.length h13.lc, .slice h13.to x.ts.length h13.tc] 60) from Lvl.keep hbq XX_14.out)).1, (five_cells (show W.heap[v13.heap.size]? = some (.cells #[.int .u8 x.k, .int .i64 x.n, .string x.s, .slice h13.lo x.ls.length h13.lc, .slice h13.to x.ts.length h13.tc] 60) from Lvl.keep hbq XX_14.out)).2.1, (five_cells (show W.heap[v13.heap.size]? = some (.cells #[.int .u8 x.k, .int .i64 x.n, .string x.s, .slice h13.lo x.ls.length h13.lc, .slice h13.to x.ts.length h13.tc] 60) from Lvl.keep hbq XX_14.out)).2.2.1, (five_cells (show W.heap[v13.heap.size]? = some (.cells #[.int .u8 x.k, .int .i64 x.n, .string x.s, .slice h13.lo x.ls.length h13.lc, .slice h13.to x.ts.length h13.tc] 60) from Lvl.keep hbq XX_14.out)).2.2.2.1, (five_cells (show W.heap[v13.heap.size]? = some (.cells #[.int .u8 x.k, .int .i64 x.n, .string x.s, .slice h13.lo x.ls.length h13.lc, .slice h13.to x.ts.length h13.tc] 60) from Lvl.keep hbq XX_14.out)).2.2.2.2, (five_cells (show W.heap[w.heap.size + 1]? = some (.cells #[.int .u8 u.k, .int .i64 u.n, .string u.s, .slice hu.lo u.ls.length hu.lc, .slice hu.to u.ts.length hu.tc] 60) from Lvl.keep hbq XU_14.out)).1, (five_cells (show W.heap[w.heap.size + 1]? = some (.cells #[.int .u8 u.k, .int .i64 u.n, .string u.s, .slice hu.lo u.ls.length hu.lc, .slice hu.to u.ts.length hu.tc] 60) from Lvl.keep hbq XU_14.out)).2.1, (five_cells (show W.heap[w.heap.size + 1]? = some (.cells #[.int .u8 u.k, .int .i64 u.n, .string u.s, .slice hu.lo u.ls.length hu.lc, .slice hu.to u.ts.length hu.tc] 60) from Lvl.keep hbq XU_14.out)).2.2.1, (five_cells (show W.heap[w.heap.size + 1]? = some (.cells #[.int .u8 u.k, .int .i64 u.n, .string u.s, .slice hu.lo u.ls.length hu.lc, .slice hu.to u.ts.length hu.tc] 60) from Lvl.keep hbq XU_14.out)).2.2.2.1, (five_cells (show W.heap[w.heap.size + 1]? = some (.cells #[.int .u8 u.k, .int .i64 u.n, .string u.s, .slice hu.lo u.ls.length hu.lc, .slice hu.to u.ts.length hu.tc] 60) from Lvl.keep hbq XU_14.out)).2.2.2.2, (five_cells (show W.heap[v3.heap.size]? = some (.cells #[.int .u8 up.k, .int .i64 up.n, .string up.s, .slice h3.lo up.ls.length h3.lc, .slice h3.to up.ts.length h3.tc] 60) from Lvl.keep hbq XP_14.out)).1, (five_cells (show W.heap[v3.heap.size]? = some (.cells #[.int .u8 up.k, .int .i64 up.n, .string up.s, .slice h3.lo up.ls.length h3.lc, .slice h3.to up.ts.length h3.tc] 60) from Lvl.keep hbq XP_14.out)).2.1, (five_cells (show W.heap[v3.heap.size]? = some (.cells #[.int .u8 up.k, .int .i64 up.n, .string up.s, .slice h3.lo up.ls.length h3.lc, .slice h3.to up.ts.length h3.tc] 60) from Lvl.keep hbq XP_14.out)).2.2.1, (five_cells (show W.heap[v3.heap.size]? = some (.cells #[.int .u8 up.k, .int .i64 up.n, .string up.s, .slice h3.lo up.ls.length h3.lc, .slice h3.to up.ts.length h3.tc] 60) from Lvl.keep hbq XP_14.out)).2.2.2.1, (five_cells (show W.heap[v3.heap.size]? = some (.cells #[.int .u8 up.k, .int .i64 up.n, .string up.s, .slice h3.lo up.ls.length h3.lc, .slice h3.to up.ts.length h3.tc] 60) from Lvl.keep hbq XP_14.out)).2.2.2.2⟩)
          go_region_held3 (fun w' => Below wq14.heap.size wq14 w' ∧ w'.cell? ⟨v13.heap.size, 0, none⟩ = some (.int .u8 x.k) ∧ w'.cell? ⟨v13.heap.size, 1, none⟩ = some (.int .i64 x.n) ∧ w'.cell? ⟨v13.heap.size, 2, none⟩ = some (.string x.s) ∧ w'.cell? ⟨v13.heap.size, 3, none⟩ = some (.slice h13.lo x.ls.length h13.lc) ∧ w'.cell? ⟨v13.heap.size, 4, none⟩ = some (.slice h13.to x.ts.length h13.tc) ∧ w'.cell? ⟨w.heap.size + 1, 0, none⟩ = some (.int .u8 u.k) ∧ w'.cell? ⟨w.heap.size + 1, 1, none⟩ = some (.int .i64 u.n) ∧ w'.cell? ⟨w.heap.size + 1, 2, none⟩ = some (.string u.s) ∧ w'.cell? ⟨w.heap.size + 1, 3, none⟩ = some (.slice hu.lo u.ls.length hu.lc) ∧ w'.cell? ⟨w.heap.size + 1, 4, none⟩ = some (.slice hu.to u.ts.length hu.tc) ∧ w'.cell? ⟨v3.heap.size, 0, none⟩ = some (.int .u8 up.k) ∧ w'.cell? ⟨v3.heap.size, 1, none⟩ = some (.int .i64 up.n) ∧ w'.cell? ⟨v3.heap.size, 2, none⟩ = some (.string up.s) ∧ w'.cell? ⟨v3.heap.size, 3, none⟩ = some (.slice h3.lo up.ls.length h3.lc) ∧ w'.cell? ⟨v3.heap.size, 4, none⟩ = some (.slice h3.to up.ts.length h3.tc)) (first | (with_reducible exact HSQ.out _ (Below.refl _ _).drew) | (with_reducible exact HSQ.out _ HBq4.out) | (with_reducible exact HSQ.out _ HBq3.out) | (with_reducible exact HSQ.out _ HBq2.out) | (with_reducible exact HSQ.out _ HBq1.out) | (with_reducible exact HSQ.out _ HBq0.out))
            (first
            | (go_at_call 60; (with_reducible refine (HFX.out (wq14.drew) h13 (carry IX_14.out (Below.refl _ _).drew)).mono ?_); rintro e u0 ⟨rfl, b0⟩; have c0 : Below wq14.heap.size wq14 u0 := Lvl.undrew b0; have HBq0 := Lib.hid c0; clear b0 c0)
            | (go_at_call 60; (with_reducible refine (HFU.out u0 MU.out (Trm.go HB_14.out HBq0.out)).mono ?_); rintro e u1 ⟨rfl, b1⟩; have HBq1 := Lib.hid (Trm.go HBq0.out b1); clear b1)
            | (go_at_call 59; (with_reducible refine (HZP.out u1 h3 (carry IP_14.out HBq1.out)).mono ?_); rintro e u2 ⟨rfl, b2⟩; have HBq2 := Lib.hid (Trm.go HBq1.out b2); clear b2)
            | (go_at_call 59; (with_reducible refine (HZU.out u2 ZU.out (Trm.go HB_14.out HBq2.out)).mono ?_); rintro e u3 ⟨rfl, b3⟩; have HBq3 := Lib.hid (Trm.go HBq2.out b3); clear b3)
            | (go_at_call 69; (with_reducible refine (sub_works_any u3).mono ?_); rintro e u4 ⟨rfl, b4⟩; have HBq4 := Lib.hid (Trm.go HBq3.out b4); clear b4))
          go_wp2_with fail
          go_ret
          exact ⟨rfl, Trm.go HB_14.out HBq4.out⟩
end Go.Proofs.Ytfechgahafbphaa
