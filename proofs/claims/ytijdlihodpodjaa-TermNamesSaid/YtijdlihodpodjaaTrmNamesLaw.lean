/-
  battenlaw03.TermNames: the walk.
-/
import Derived.Test.YtijdlihodpodjaaTrmNamesMath
import Derived.Deep.RegionHeld3
namespace Go.Proofs.Ytijdlihodpodjaa
open Go.RowKit Go.Shelf Go.Maps Go.Sort Lvl Trm

theorem Trm.drewN_bel (B : Nat) (w : World) (n : Nat) : Below B w (w.drewN n) := by refine ⟨?_, ?_, ?_, ?_, ?_⟩ <;> simp [World.drewN]
/-- Outer loops: the world has grown, i is a place. -/
def Trm.LpRel (ws : World) (n : Nat) (i : Value) (wr : World) : Prop := ∃ j : Nat, i = .int .i64 j ∧ j ≤ n ∧ Below ws.heap.size ws wr
/-- Is the name s among the first ones of l, or was it there already? -/
def Trm.ThRel (ws : World) (s : List UInt8) (th0 : Bool) (l : List (List UInt8)) (th k : Value) (wr : World) : Prop := ∃ m : Nat, k = .int .i64 m ∧ m ≤ l.length ∧ th = .bool (th0 || decide (s ∈ l.take m)) ∧ Below ws.heap.size ws wr
def Trm.CtRel (ws : World) (x y : List (List UInt8)) (n i : Value) (wr : World) : Prop := ∃ j : Nat, i = .int .i64 j ∧ j ≤ x.length ∧ n = .int .i64 (cnt (x.take j) y : Nat) ∧ Below ws.heap.size ws wr
def Trm.CtRel2 (ws : World) (c : Nat) (s : List UInt8) (y : List (List UInt8)) (n k : Value) (wr : World) : Prop := ∃ m : Nat, k = .int .i64 m ∧ m ≤ y.length ∧ n = .int .i64 (c + (y.take m).count s : Nat) ∧ Below ws.heap.size ws wr
theorem Trm.take_mem {s : List UInt8} {l : List (List UInt8)} {m : Nat} (h : m < l.length) : decide (s ∈ l.take (m + 1)) = (decide (s ∈ l.take m) || decide (l[m] = s)) := by
  rw [List.take_succ_eq_append_getElem h, Bool.eq_iff_iff]
  simp only [Bool.or_eq_true, decide_eq_true_eq, List.mem_append, List.mem_singleton]
  exact ⟨fun h => h.imp id Eq.symm, fun h => h.imp id Eq.symm⟩
theorem Trm.take_count {s : List UInt8} {l : List (List UInt8)} {m : Nat} (h : m < l.length) : (l.take (m + 1)).count s = (l.take m).count s + (if l[m] = s then 1 else 0) := by
  rw [List.take_succ_eq_append_getElem h, List.count_append, List.count_singleton]
  simp

theorem Trm.less_iff : {x y : List UInt8} → (Op.bytesLess x y = true ↔ x < y)
  | [], [] => by simp [Op.bytesLess]
  | _ :: _, [] => by simp [Op.bytesLess]
  | [], _ :: _ => by simp [Op.bytesLess]
  | a :: x, b :: y => by
    have ih := Trm.less_iff (x := x) (y := y)
    simp only [Op.bytesLess, List.cons_lt_cons_iff, Bool.or_eq_true, Bool.and_eq_true, decide_eq_true_eq, beq_iff_eq, ih]
theorem Trm.nameOk_size {s : ByteArray} (h : nameOk s = true) : s.size ≤ 9223372036854775807 := by
  unfold nameOk at h
  simp only [Bool.and_eq_true, decide_eq_true_eq] at h
  omega

set_option maxRecDepth 100000 in
set_option maxHeartbeats 40000000 in
theorem law_term_names (a b : Tm) (ha hb : Hd) (w : World) (hia : a.In w.heap.size w ha) (hib : b.In w.heap.size w hb) :
    Calls Try.prog 4 #[a.val ha, b.val hb] w fun e w' => e = .returned (.bool true) ∧ Below w.heap.size w w' := by
  have HIA := Lib.hid hia
  have HIB := Lib.hid hib
  have HDA := Lib.hid (fun (W : World) (hW : Below w.heap.size w W) => Deep_any a ha W (carry hia hW))
  have HDB := Lib.hid (fun (W : World) (hW : Below w.heap.size w W) => Deep_any b hb W (carry hib hW))
  obtain ⟨c, hc⟩ : ∃ c, c = t2 4 a b := ⟨_, rfl⟩
  obtain ⟨d, hd⟩ : ∃ d, d = t2 5 a b := ⟨_, rfl⟩
  obtain ⟨p, hp⟩ : ∃ p, p = t2 6 d a := ⟨_, rfl⟩
  have HCA := Lib.hid (fun (W : World) (hW : Below w.heap.size w W) => (show Calls Try.prog 28 #[a.val ha, b.val hb] W (Made c W) from hc ▸ A_any a b ha hb W (carry hia hW) (carry hib hW)))
  have HCL := Lib.hid (fun (W : World) (hW : Below w.heap.size w W) => (show Calls Try.prog 30 #[a.val ha, b.val hb] W (Made d W) from hd ▸ L_any a b ha hb W (carry hia hW) (carry hib hW)))
  have HCP := Lib.hid (fun (W : World) (h : Hd) (hi : d.In W.heap.size W h) (hW : Below w.heap.size w W) => (show Calls Try.prog 29 #[d.val h, a.val ha] W (Made p W) from hp ▸ P_any d a h ha W hi (carry hia hW)))
  have HMC := Lib.hid (fun (W : World) (h : Hd) (hi : c.In W.heap.size W h) => RefTMay_any c h W hi)
  have HMP := Lib.hid (fun (W : World) (h : Hd) (hi : p.In W.heap.size W h) => RefTMay_any p h W hi)
  have HNA := Lib.hid (fun (W : World) (hW : Below w.heap.size w W) => Names_any a ha W (carry hia hW))
  have HNB := Lib.hid (fun (W : World) (hW : Below w.heap.size w W) => Names_any b hb W (carry hib hW))
  have HNC := Lib.hid (fun (W : World) (h : Hd) (hi : c.In W.heap.size W h) => Names_any c h W hi)
  have HNP := Lib.hid (fun (W : World) (h : Hd) (hi : p.In W.heap.size W h) => Names_any p h W hi)
  have HPA : Hid (c.may = true → a.may = true ∧ b.may = true) := Lib.hid (fun hm => may_parts (k := 4) (Or.inl rfl) (by rw [← hc]; exact hm))
  have HCN : Hid (c.nms = a.nms ++ b.nms) := Lib.hid (by rw [hc]; exact nms_t2 4 a b)
  have HPN : Hid (∀ x, x ∈ p.nms ↔ x ∈ a.nms ++ b.nms) := Lib.hid (fun x => by rw [hp, hd, nms_t2, nms_t2]; simp only [List.mem_append]; constructor <;> (intro h; rcases h with h | h) <;> simp_all)
  unfold Tm.val at HDA HDB HCA HCL HCP HMC HMP HNA HNB HNC HNP ⊢
  dsimp only [Tm.vals] at HDA HDB HCA HCL HCP HMC HMP HNA HNB HNC HNP ⊢
  have HB_0 := Lib.hid (below_two w (a.box ha) (b.box hb))
  have XA_0 := Lib.hid (new1of2 w (a.box ha) (b.box hb))
  have XB_0 := Lib.hid (new2 w (a.box ha) (b.box hb))
  unfold Tm.box at HB_0 XA_0 XB_0
  dsimp only [Tm.vals] at HB_0 XA_0 XB_0
  clear hia hib hc hd hp
  go_enter Try.func4, Try.ntmps4
  go_wp2_with fail
  refine (HDA.out _ HB_0.out).mono ?_
  rintro e v1 ⟨rfl, b1⟩
  have HB_1 := Lib.hid (Trm.go HB_0.out b1)
  have XA_1 := Lib.hid (Lvl.keep b1 XA_0.out)
  have XB_1 := Lib.hid (Lvl.keep b1 XB_0.out)

  clear b1 HB_0 XA_0 XB_0
  obtain ⟨cA0, cA1, cA2, cA3, cA4⟩ := five_cells XA_1.out
  obtain ⟨cB0, cB1, cB2, cB3, cB4⟩ := five_cells XB_1.out
  cases hda : a.deep
  case true =>
    go_wp2_with fail
    refine (works_any _).mono ?_
    rintro e vw ⟨rfl, bw⟩
    have HBw := Lib.hid (Trm.go HB_1.out bw)
    clear bw
    go_wp2_with fail
    go_ret
    exact ⟨rfl, HBw.out⟩
  case false =>
    go_wp2_with fail
    refine (HDB.out _ HB_1.out).mono ?_
    rintro e v2 ⟨rfl, b2⟩
    have HB_2 := Lib.hid (Trm.go HB_1.out b2)
    have XA_2 := Lib.hid (Lvl.keep b2 XA_1.out)
    have XB_2 := Lib.hid (Lvl.keep b2 XB_1.out)

    clear b2 HB_1 XA_1 XB_1
    clear cA0 cA1 cA2 cA3 cA4 cB0 cB1 cB2 cB3 cB4
    obtain ⟨cA0, cA1, cA2, cA3, cA4⟩ := five_cells XA_2.out
    obtain ⟨cB0, cB1, cB2, cB3, cB4⟩ := five_cells XB_2.out
    cases hdb : b.deep
    case true =>
      go_wp2_with fail
      refine (works_any _).mono ?_
      rintro e vw ⟨rfl, bw⟩
      have HBw := Lib.hid (Trm.go HB_2.out bw)
      clear bw
      go_wp2_with fail
      go_ret
      exact ⟨rfl, HBw.out⟩
    case false =>
      clear HDA HDB hda hdb
      go_wp2_with fail
      refine (HCA.out _ HB_2.out).mono ?_
      rintro e v3 ⟨hc1, rfl, ic1, b3⟩
      have HB_3 := Lib.hid (Trm.go HB_2.out b3)
      have XA_3 := Lib.hid (Lvl.keep b3 XA_2.out)
      have XB_3 := Lib.hid (Lvl.keep b3 XB_2.out)
      have IC := Lib.hid ic1
      clear ic1
      dsimp only [Tm.val, Tm.vals]
      clear b3 HB_2 XA_2 XB_2
      clear cA0 cA1 cA2 cA3 cA4 cB0 cB1 cB2 cB3 cB4
      obtain ⟨cA0, cA1, cA2, cA3, cA4⟩ := five_cells XA_3.out
      obtain ⟨cB0, cB1, cB2, cB3, cB4⟩ := five_cells XB_3.out
      go_wp2_with fail
      refine (HMC.out _ _ IC.out).mono ?_
      rintro e v4 ⟨rfl, b4⟩
      have HB_4 := Lib.hid (Trm.go HB_3.out b4)
      have XA_4 := Lib.hid (Lvl.keep b4 XA_3.out)
      have XB_4 := Lib.hid (Lvl.keep b4 XB_3.out)
      clear IC
      clear b4 HB_3 XA_3 XB_3
      clear cA0 cA1 cA2 cA3 cA4 cB0 cB1 cB2 cB3 cB4
      obtain ⟨cA0, cA1, cA2, cA3, cA4⟩ := five_cells XA_4.out
      obtain ⟨cB0, cB1, cB2, cB3, cB4⟩ := five_cells XB_4.out
      cases hcm : c.may
      case false =>
        go_wp2_with fail
        refine (works_any _).mono ?_
        rintro e vw ⟨rfl, bw⟩
        have HBw := Lib.hid (Trm.go HB_4.out bw)
        clear bw
        go_wp2_with fail
        go_ret
        exact ⟨rfl, HBw.out⟩
      case true =>
        have HAM := Lib.hid (HPA.out hcm)
        have HCM := Lib.hid hcm
        clear hcm HMC HPA
        go_wp2_with fail
        refine (HNA.out _ HB_4.out).mono ?_
        rintro e v5 ⟨ax, cx, x, rfl, rX, qX, nX, b5⟩
        have HB_5 := Lib.hid (Trm.go HB_4.out b5)
        have XA_5 := Lib.hid (Lvl.keep b5 XA_4.out)
        have XB_5 := Lib.hid (Lvl.keep b5 XB_4.out)
        have RX := Lib.hid rX
        have QX := Lib.hid qX
        have NX := Lib.hid nX
        clear rX qX nX
        clear b5 HB_4 XA_4 XB_4
        clear cA0 cA1 cA2 cA3 cA4 cB0 cB1 cB2 cB3 cB4
        obtain ⟨cA0, cA1, cA2, cA3, cA4⟩ := five_cells XA_5.out
        obtain ⟨cB0, cB1, cB2, cB3, cB4⟩ := five_cells XB_5.out
        go_wp2_with fail
        refine (HNB.out _ HB_5.out).mono ?_
        rintro e v6 ⟨ay, cy, y, rfl, rY, qY, nY, b6⟩
        have HB_6 := Lib.hid (Trm.go HB_5.out b6)
        have XA_6 := Lib.hid (Lvl.keep b6 XA_5.out)
        have XB_6 := Lib.hid (Lvl.keep b6 XB_5.out)
        have RX := Lib.hid (SRow.carry RX.out b6)
        have RY := Lib.hid rY
        have QY := Lib.hid qY
        have NY := Lib.hid nY
        clear rY qY nY
        clear b6 HB_5 XA_5 XB_5
        clear cA0 cA1 cA2 cA3 cA4 cB0 cB1 cB2 cB3 cB4
        obtain ⟨cA0, cA1, cA2, cA3, cA4⟩ := five_cells XA_6.out
        obtain ⟨cB0, cB1, cB2, cB3, cB4⟩ := five_cells XB_6.out
        go_wp2_with fail
        refine (HCA.out _ HB_6.out).mono ?_
        rintro e v7 ⟨hc2, rfl, ic2, b7⟩
        have HB_7 := Lib.hid (Trm.go HB_6.out b7)
        have XA_7 := Lib.hid (Lvl.keep b7 XA_6.out)
        have XB_7 := Lib.hid (Lvl.keep b7 XB_6.out)
        have IC := Lib.hid ic2
        clear ic2
        dsimp only [Tm.val, Tm.vals]
        have RX := Lib.hid (SRow.carry RX.out b7)
        have RY := Lib.hid (SRow.carry RY.out b7)
        clear b7 HB_6 XA_6 XB_6
        clear cA0 cA1 cA2 cA3 cA4 cB0 cB1 cB2 cB3 cB4
        obtain ⟨cA0, cA1, cA2, cA3, cA4⟩ := five_cells XA_7.out
        obtain ⟨cB0, cB1, cB2, cB3, cB4⟩ := five_cells XB_7.out
        go_wp2_with fail
        refine (HNC.out _ _ IC.out).mono ?_
        rintro e v8 ⟨az, cz, z, rfl, rZ, qZ, nZ, b8⟩
        have HB_8 := Lib.hid (Trm.go HB_7.out b8)
        have XA_8 := Lib.hid (Lvl.keep b8 XA_7.out)
        have XB_8 := Lib.hid (Lvl.keep b8 XB_7.out)
        have RX := Lib.hid (SRow.carry RX.out b8)
        have RY := Lib.hid (SRow.carry RY.out b8)
        have RZ := Lib.hid rZ
        have QZ := Lib.hid qZ
        have NZ := Lib.hid nZ
        clear rZ qZ nZ
        clear IC
        clear b8 HB_7 XA_7 XB_7
        clear cA0 cA1 cA2 cA3 cA4 cB0 cB1 cB2 cB3 cB4
        obtain ⟨cA0, cA1, cA2, cA3, cA4⟩ := five_cells XA_8.out
        obtain ⟨cB0, cB1, cB2, cB3, cB4⟩ := five_cells XB_8.out
        have qx := QX.out HAM.out.1
        have qy := QY.out HAM.out.2
        have qz := QZ.out HCM.out
        have HXY : Hid (∀ s, s ∈ z ↔ s ∈ x ∨ s ∈ y) := Lib.hid (fun s => by rw [qz.2 s, HCN.out, List.mem_append, qx.2 s, qy.2 s])
        have HCT := Lib.hid (names_count qx.1 qy.1 qz.1 HXY.out)
        have HZR := Lib.hid qz.1
        have HZO : Hid (∀ s ∈ z, nameOk ⟨s.toArray⟩ = true) := Lib.hid (fun s hs => names_ok (OkMay.start HCM.out) ((qz.2 s).1 hs))
        have HU0 : Hid (p.may = true → ∀ u : List (List UInt8), Rises u → (∀ s, s ∈ u ↔ s ∈ p.nms) → u = z) := Lib.hid (fun _ u hu hm => rises_uniq hu qz.1 (fun s => by rw [hm s, HPN.out s, qz.2 s, HCN.out]))
        clear qx qy qz QX QY QZ HCN HPN HAM HCM HNA HNB HNC HCA
        go_wp2_with fail
        go_region_held3 (fun w' => w'.cell? ⟨w.heap.size, 0, none⟩ = some (.int .u8 a.k) ∧ w'.cell? ⟨w.heap.size, 1, none⟩ = some (.int .i64 a.n) ∧ w'.cell? ⟨w.heap.size, 2, none⟩ = some (.string a.s) ∧ w'.cell? ⟨w.heap.size, 3, none⟩ = some (.slice ha.lo a.ls.length ha.lc) ∧ w'.cell? ⟨w.heap.size, 4, none⟩ = some (.slice ha.to a.ts.length ha.tc) ∧ w'.cell? ⟨w.heap.size + 1, 0, none⟩ = some (.int .u8 b.k) ∧ w'.cell? ⟨w.heap.size + 1, 1, none⟩ = some (.int .i64 b.n) ∧ w'.cell? ⟨w.heap.size + 1, 2, none⟩ = some (.string b.s) ∧ w'.cell? ⟨w.heap.size + 1, 3, none⟩ = some (.slice hb.lo b.ls.length hb.lc) ∧ w'.cell? ⟨w.heap.size + 1, 4, none⟩ = some (.slice hb.to b.ts.length hb.tc))
          (go_keep)
          (first
            | (go_at_call 30; (with_reducible refine (HCL.out _ (Trm.go HB_8.out (Below.refl _ _).drew)).mono ?_); rintro e s1 ⟨hd1, rfl, iD, bw⟩; have HS1 := Lib.hid (show Below v8.heap.size v8 s1 from Lvl.undrew bw); have ID := Lib.hid iD; clear bw iD; obtain ⟨cA0, cA1, cA2, cA3, cA4⟩ := five_cells (Lvl.keep HS1.out XA_8.out); obtain ⟨cB0, cB1, cB2, cB3, cB4⟩ := five_cells (Lvl.keep HS1.out XB_8.out); dsimp only [Tm.val, Tm.vals])
            | (go_at_call 29; (with_reducible refine (HCP.out _ _ ID.out (Trm.go HB_8.out HS1.out)).mono ?_); rintro e s2 ⟨hp1, rfl, iP, bw⟩; have HS2 := Lib.hid (Trm.go HS1.out bw); have IP := Lib.hid iP; clear bw iP; obtain ⟨cA0, cA1, cA2, cA3, cA4⟩ := five_cells (Lvl.keep HS2.out XA_8.out); obtain ⟨cB0, cB1, cB2, cB3, cB4⟩ := five_cells (Lvl.keep HS2.out XB_8.out); dsimp only [Tm.val, Tm.vals])
            | (go_at_call 22; (with_reducible refine (HNP.out _ _ IP.out).mono ?_); rintro e s3 ⟨au, cu, u, rfl, rU, qU, nU, bw⟩; have HS3 := Lib.hid (Trm.go HS2.out bw); have RU := Lib.hid rU; have QU := Lib.hid qU; have NU := Lib.hid nU; clear bw rU qU nU; obtain ⟨cA0, cA1, cA2, cA3, cA4⟩ := five_cells (Lvl.keep HS3.out XA_8.out); obtain ⟨cB0, cB1, cB2, cB3, cB4⟩ := five_cells (Lvl.keep HS3.out XB_8.out)))
        have HB_s := Lib.hid (Trm.go HB_8.out HS3.out)
        have XA_s := Lib.hid (Lvl.keep HS3.out XA_8.out)
        have XB_s := Lib.hid (Lvl.keep HS3.out XB_8.out)
        have RX := Lib.hid (SRow.carry RX.out HS3.out)
        have RY := Lib.hid (SRow.carry RY.out HS3.out)
        have RZ := Lib.hid (SRow.carry RZ.out HS3.out)
        clear HB_8 XA_8 XB_8 HS1 HS2 HS3 ID IP
        clear cA0 cA1 cA2 cA3 cA4 cB0 cB1 cB2 cB3 cB4
        go_wp2_with fail
        go_loopw [9] (fun i wr => LpRel s3 z.length i wr) (fun i _ => z.length - (intOf i).toNat)
        case atStart => exact ⟨0, rfl, by omega, Below.refl _ _⟩
        case round =>
          obtain ⟨j, rfl, hj, hbel⟩ := hrel
          have HBE := Lib.hid hbel
          clear hbel
          by_cases hlt : j < z.length
          · obtain ⟨bz, oz, rfl, hbz, pz⟩ := (RZ.out.below HBE.out).place j hlt
            have hj0 : (0 : Int) ≤ (j : Int) := Int.natCast_nonneg _
            have hj1 : (j : Int) < (z.length : Int) := by omega
            have HLT := Lib.hid hlt
            have hnz := NZ.out
            have ez : (⟨z[j].toArray⟩ : ByteArray).toList = z[j] := by rw [ByteArray.toList_eq]
            have hok : nameOk ⟨z[j].toArray⟩ = true := HZO.out _ (List.getElem_mem hlt)
            generalize (⟨z[j].toArray⟩ : ByteArray) = sz at pz ez hok
            obtain ⟨zj, hzj⟩ : ∃ zj, zj = z[j] := ⟨_, rfl⟩
            have EZ : Hid (sz.toList = zj) := Lib.hid (by rw [ez, hzj])
            have HOKZ := Lib.hid hok
            have HIN : Hid (zj ∈ x ∨ zj ∈ y) := Lib.hid ((HXY.out zj).1 (by rw [hzj]; exact List.getElem_mem hlt))
            have HZJ := Lib.hid hzj
            have PZ := Lib.hid pz
            have hbz2 : bz < wr.heap.size := by have := HBE.out.size; omega
            clear hzj ez hok
            go_wp2_with fail
            go_loopw [10, 11] (fun th k wr' => ThRel wr zj false x th k wr') (fun _ k _ => x.length - (intOf k).toNat)
            case atStart => exact ⟨0, rfl, by omega, by simp, Below.refl _ _⟩
            case round =>
              obtain ⟨m, rfl, hm, hth, hbel2⟩ := hrel
              subst hth
              have HB2 := Lib.hid hbel2
              clear hbel2
              by_cases hlt2 : m < x.length
              · obtain ⟨b1, o1, rfl, hb1, p1⟩ := ((RX.out.below HBE.out).below (HB2.out.mono HBE.out.size)).place m hlt2
                have pz2 := (HB2.out.cell (p := ⟨bz, oz + j, none⟩) hbz2).trans PZ.out
                have hm0 : (0 : Int) ≤ (m : Int) := Int.natCast_nonneg _
                have hm1 : (m : Int) < (x.length : Int) := by omega
                have HTK := Lib.hid (take_mem (s := zj) hlt2)
                have hln := NX.out
                have e1 : (⟨x[m].toArray⟩ : ByteArray).toList = x[m] := by rw [ByteArray.toList_eq]
                generalize (⟨x[m].toArray⟩ : ByteArray) = s1 at p1 e1
                cases hT : (false || decide (zj ∈ x.take m))
                · have HT := Lib.hid hT
                  clear hT
                  by_cases heq : x[m] = zj
                  · have q : (s1.toList == sz.toList) = true := by rw [e1, EZ.out, heq]; exact beq_self_eq_true _
                    have HN : Hid ((true : Bool) = (false || decide (zj ∈ x.take (m + 1)))) := Lib.hid (by rw [HTK.out, heq]; simp)
                    clear e1 heq
                    go_wp2_with fail
                    go_quiet (fail)
                    go_wp2_with fail
                    go_roundw
                    case rel => exact ⟨m + 1, by go_num, by omega, by rw [← HN.out], HB2.out.trans (drewN_bel _ _ _)⟩
                    case measure => simp [intOf]; omega
                  · have q : (s1.toList == sz.toList) = false := by rw [e1, EZ.out]; exact beq_eq_false_iff_ne.2 heq
                    have HN : Hid ((false : Bool) = (false || decide (zj ∈ x.take (m + 1)))) := Lib.hid (by rw [HTK.out, decide_eq_false heq, Bool.or_false, HT.out])
                    clear e1 heq
                    go_wp2_with fail
                    go_quiet (fail)
                    go_wp2_with fail
                    go_roundw
                    case rel => exact ⟨m + 1, by go_num, by omega, by rw [← HN.out], HB2.out.trans (drewN_bel _ _ _)⟩
                    case measure => simp [intOf]; omega
                · have HN : Hid ((true : Bool) = (false || decide (zj ∈ x.take (m + 1)))) := Lib.hid (by rw [HTK.out, ← Bool.or_assoc, hT, Bool.true_or])
                  clear hT e1
                  go_wp2_with fail
                  go_quiet (fail)
                  go_wp2_with fail
                  go_roundw
                  case rel => exact ⟨m + 1, by go_num, by omega, by rw [← HN.out], HB2.out.trans (drewN_bel _ _ _)⟩
                  case measure => simp [intOf]; omega
              · have HTT : Hid ((false || decide (zj ∈ x.take m)) = (false || decide (zj ∈ x))) := Lib.hid (by rw [List.take_of_length_le (by omega)])
                rw [HTT.out]
                go_wp2_with fail
                have HBEn := Lib.hid (HBE.out.trans (HB2.out.mono HBE.out.size))
                have PZn := Lib.hid ((HB2.out.cell (p := ⟨bz, oz + j, none⟩) hbz2).trans PZ.out)
                have hbzn : bz < wr.heap.size := by have := HBEn.out.size; omega
                clear HBE PZ hbz2 HB2
                have HBE := HBEn
                have PZ := PZn
                have hbz2 := hbzn
                clear HBEn PZn hbzn hlt2 HTT hm
                obtain ⟨T1, hT1⟩ : ∃ T1, T1 = (false || decide (zj ∈ x)) := ⟨_, rfl⟩
                rw [← hT1]
                have HT1 := Lib.hid hT1
                clear hT1
                go_loopw [10, 12] (fun th k wr' => ThRel wr zj T1 y th k wr') (fun _ k _ => y.length - (intOf k).toNat)
                case atStart => exact ⟨0, rfl, by omega, by simp, Below.refl _ _⟩
                case round =>
                  obtain ⟨m, rfl, hm, hth, hbel2⟩ := hrel
                  subst hth
                  have HB2 := Lib.hid hbel2
                  clear hbel2
                  by_cases hlt2 : m < y.length
                  · obtain ⟨b1, o1, rfl, hb1, p1⟩ := ((RY.out.below HBE.out).below (HB2.out.mono HBE.out.size)).place m hlt2
                    have pz2 := (HB2.out.cell (p := ⟨bz, oz + j, none⟩) hbz2).trans PZ.out
                    have hm0 : (0 : Int) ≤ (m : Int) := Int.natCast_nonneg _
                    have hm1 : (m : Int) < (y.length : Int) := by omega
                    have HTK := Lib.hid (take_mem (s := zj) hlt2)
                    have hln := NY.out
                    have e1 : (⟨y[m].toArray⟩ : ByteArray).toList = y[m] := by rw [ByteArray.toList_eq]
                    generalize (⟨y[m].toArray⟩ : ByteArray) = s1 at p1 e1
                    cases hT : (T1 || decide (zj ∈ y.take m))
                    · have HT := Lib.hid hT
                      clear hT
                      by_cases heq : y[m] = zj
                      · have q : (s1.toList == sz.toList) = true := by rw [e1, EZ.out, heq]; exact beq_self_eq_true _
                        have HN : Hid ((true : Bool) = (T1 || decide (zj ∈ y.take (m + 1)))) := Lib.hid (by rw [HTK.out, heq]; simp)
                        clear e1 heq
                        go_wp2_with fail
                        go_quiet (fail)
                        go_wp2_with fail
                        go_roundw
                        case rel => exact ⟨m + 1, by go_num, by omega, by rw [← HN.out], HB2.out.trans (drewN_bel _ _ _)⟩
                        case measure => simp [intOf]; omega
                      · have q : (s1.toList == sz.toList) = false := by rw [e1, EZ.out]; exact beq_eq_false_iff_ne.2 heq
                        have HN : Hid ((false : Bool) = (T1 || decide (zj ∈ y.take (m + 1)))) := Lib.hid (by rw [HTK.out, decide_eq_false heq, Bool.or_false, HT.out])
                        clear e1 heq
                        go_wp2_with fail
                        go_quiet (fail)
                        go_wp2_with fail
                        go_roundw
                        case rel => exact ⟨m + 1, by go_num, by omega, by rw [← HN.out], HB2.out.trans (drewN_bel _ _ _)⟩
                        case measure => simp [intOf]; omega
                    · have HN : Hid ((true : Bool) = (T1 || decide (zj ∈ y.take (m + 1)))) := Lib.hid (by rw [HTK.out, ← Bool.or_assoc, hT, Bool.true_or])
                      clear hT e1
                      go_wp2_with fail
                      go_quiet (fail)
                      go_wp2_with fail
                      go_roundw
                      case rel => exact ⟨m + 1, by go_num, by omega, by rw [← HN.out], HB2.out.trans (drewN_bel _ _ _)⟩
                      case measure => simp [intOf]; omega
                  · have HTT : Hid ((T1 || decide (zj ∈ y.take m)) = (T1 || decide (zj ∈ y))) := Lib.hid (by rw [List.take_of_length_le (by omega)])
                    rw [HTT.out]
                    have HTR : Hid ((T1 || decide (zj ∈ y)) = true) := Lib.hid (by
                      rw [HT1.out]
                      rcases HIN.out with h | h
                      · simp [h]
                      · simp [h])
                    rw [HTR.out]
                    go_wp2_with fail
                    have HBEn := Lib.hid (HBE.out.trans (HB2.out.mono HBE.out.size))
                    have PZn := Lib.hid ((HB2.out.cell (p := ⟨bz, oz + j, none⟩) hbz2).trans PZ.out)
                    have hbzn : bz < wr.heap.size := by have := HBEn.out.size; omega
                    clear HBE PZ hbz2 HB2
                    have HBE := HBEn
                    have PZ := PZn
                    have hbz2 := hbzn
                    clear HBEn PZn hbzn hlt2 HTT hm
                    have pz3 := PZ.out
                    have HN := Lib.hid (fun (W : World) => (show Calls Try.prog 15 #[.string sz] W fun e w' => e = .returned (.bool true) ∧ w' = W from (HOKZ.out ▸ Name_any sz W (nameOk_size HOKZ.out) : Calls Try.prog 15 #[.string sz] W fun e w' => e = .returned (.bool true) ∧ W = w').mono fun _ _ h => ⟨h.1, h.2.symm⟩))
                    by_cases hj2 : 0 < j
                    · obtain ⟨b3, o3, hao3, hb3, pp⟩ := (RZ.out.below HBE.out).place (j - 1) (by have := HLT.out; omega)
                      obtain ⟨rfl, rfl⟩ : bz = b3 ∧ oz = o3 := by injection hao3 with h; injection h with h1 h2; exact ⟨h1, h2⟩
                      have hwj : IntKind.i64.wrap ((j : Int) - 1) = ((j - 1 : Nat) : Int) := by rw [show (j : Int) - 1 = ((j - 1 : Nat) : Int) by omega]; exact IntWalk.i64_in _ (by omega)
                      have d5 : decide (0 < (j : Int)) = true := by simp; omega
                      have hq0 : (0 : Int) ≤ ((j - 1 : Nat) : Int) := Int.natCast_nonneg _
                      have hq1 : ((j - 1 : Nat) : Int) < (z.length : Int) := by have := HLT.out; omega
                      have e3 : (⟨z[j - 1].toArray⟩ : ByteArray).toList = z[j - 1]'(by have := HLT.out; omega) := by rw [ByteArray.toList_eq]
                      have hlt3 : z[j - 1]'(by have := HLT.out; omega) < zj := by rw [HZJ.out]; exact List.pairwise_iff_getElem.1 HZR.out (j - 1) j (by have := HLT.out; omega) HLT.out (by omega)
                      generalize (⟨z[j - 1].toArray⟩ : ByteArray) = sp at pp e3
                      have q3 : Op.bytesLess sp.toList sz.toList = true := by rw [e3, EZ.out]; exact less_iff.2 hlt3
                      clear e3 hlt3 hao3
                      go_quiet ((go_at_call 15; refine Calls.quiet_of_same (HN.out _)))
                      go_wp2_with fail
                      go_roundw
                      case rel => exact ⟨j + 1, by go_num, by have := HLT.out; omega, HBE.out.trans (drewN_bel _ _ _)⟩
                      case measure => have := HLT.out; simp [intOf]; omega
                    · have d5 : decide (0 < (j : Int)) = false := by simp; omega
                      go_quiet ((go_at_call 15; refine Calls.quiet_of_same (HN.out _)))
                      go_wp2_with fail
                      go_roundw
                      case rel => exact ⟨j + 1, by go_num, by have := HLT.out; omega, HBE.out.trans (drewN_bel _ _ _)⟩
                      case measure => have := HLT.out; simp [intOf]; omega
          · have HB_r := Lib.hid (Trm.go HB_s.out HBE.out)
            have XA_r := Lib.hid (Lvl.keep HBE.out XA_s.out)
            have XB_r := Lib.hid (Lvl.keep HBE.out XB_s.out)
            have RX := Lib.hid (SRow.carry RX.out HBE.out)
            have RY := Lib.hid (SRow.carry RY.out HBE.out)
            have RZ := Lib.hid (SRow.carry RZ.out HBE.out)
            have RU := Lib.hid (SRow.carry RU.out HBE.out)
            clear HBE XA_s XB_s HB_s HZO HZR HXY
            obtain ⟨cA0, cA1, cA2, cA3, cA4⟩ := five_cells XA_r.out
            obtain ⟨cB0, cB1, cB2, cB3, cB4⟩ := five_cells XB_r.out
            obtain ⟨pm, hpm⟩ : ∃ pm, pm = p.may := ⟨_, rfl⟩
            have HST : Hid (pm = true → ∀ W : World, Below wr.heap.size wr W → Calls Try.prog 26 #[.slice au u.length cu, .slice az z.length cz] W fun e w' => e = .returned (.bool true) ∧ Below W.heap.size W w') := Lib.hid (fun h W hW => by
              have hp := QU.out (hpm ▸ h)
              have he : u = z := HU0.out (hpm ▸ h) u hp.1 hp.2
              have hr := strings_any u z au az cu cz W (SRow.carry RU.out hW) (SRow.carry RZ.out hW) (by have := NU.out; omega)
              rw [he, beq_self_eq_true] at hr
              rw [he]
              exact hr)
            have HMP1 : Hid (∀ (W : World) (h : Hd), p.In W.heap.size W h → Calls Try.prog 13 #[.agg #[.int .u8 p.k, .int .i64 p.n, .string p.s, .slice h.lo p.ls.length h.lc, .slice h.to p.ts.length h.tc]] W fun e w' => e = .returned (.bool pm) ∧ Below W.heap.size W w') := Lib.hid (fun W h hi => hpm ▸ HMP.out W h hi)
            clear HMP hpm HU0 QU
            cases pm
            · go_wp2_with fail
              refine wp_region_held_drew (S := (fun w' => w'.cell? ⟨w.heap.size, 0, none⟩ = some (.int .u8 a.k) ∧ w'.cell? ⟨w.heap.size, 1, none⟩ = some (.int .i64 a.n) ∧ w'.cell? ⟨w.heap.size, 2, none⟩ = some (.string a.s) ∧ w'.cell? ⟨w.heap.size, 3, none⟩ = some (.slice ha.lo a.ls.length ha.lc) ∧ w'.cell? ⟨w.heap.size, 4, none⟩ = some (.slice ha.to a.ts.length ha.tc) ∧ w'.cell? ⟨w.heap.size + 1, 0, none⟩ = some (.int .u8 b.k) ∧ w'.cell? ⟨w.heap.size + 1, 1, none⟩ = some (.int .i64 b.n) ∧ w'.cell? ⟨w.heap.size + 1, 2, none⟩ = some (.string b.s) ∧ w'.cell? ⟨w.heap.size + 1, 3, none⟩ = some (.slice hb.lo b.ls.length hb.lc) ∧ w'.cell? ⟨w.heap.size + 1, 4, none⟩ = some (.slice hb.to b.ts.length hb.tc))) (by kernel_rfl) (⟨(five_cells (Lvl.keep (RowKit.Below.refl _ _).drew XA_r.out)).1, (five_cells (Lvl.keep (RowKit.Below.refl _ _).drew XA_r.out)).2.1, (five_cells (Lvl.keep (RowKit.Below.refl _ _).drew XA_r.out)).2.2.1, (five_cells (Lvl.keep (RowKit.Below.refl _ _).drew XA_r.out)).2.2.2.1, (five_cells (Lvl.keep (RowKit.Below.refl _ _).drew XA_r.out)).2.2.2.2, (five_cells (Lvl.keep (RowKit.Below.refl _ _).drew XB_r.out)).1, (five_cells (Lvl.keep (RowKit.Below.refl _ _).drew XB_r.out)).2.1, (five_cells (Lvl.keep (RowKit.Below.refl _ _).drew XB_r.out)).2.2.1, (five_cells (Lvl.keep (RowKit.Below.refl _ _).drew XB_r.out)).2.2.2.1, (five_cells (Lvl.keep (RowKit.Below.refl _ _).drew XB_r.out)).2.2.2.2⟩) (fun hHeld => ?_)
              refine wpAnyH_take (i := 0) (v := ?vg0) rfl (by kernel_rfl) (by kernel_rfl) (by kernel_rfl) (fun _ _ _ h => h) (Or.inl ⟨by rfl, ?hyg0⟩) (by assumption) ?restg0
              case hyg0 => (intro w hSw; (try dsimp only at hSw); go_simp <;> with_reducible rfl)
              try simp only [List.getElem_toArray, List.getElem_cons_zero, Act.put, List.setIfInBounds_toArray, List.set_cons_zero, List.set_cons_succ]
              refine wpAnyH_take (i := 1) (v := ?vg1) rfl (by kernel_rfl) (by kernel_rfl) (by kernel_rfl) (fun _ _ _ h => h) (Or.inl ⟨by rfl, ?hyg1⟩) (by assumption) ?restg1
              case hyg1 => (intro w hSw; (try dsimp only at hSw); go_simp <;> with_reducible rfl)
              try simp only [List.getElem_toArray, List.getElem_cons_succ, List.getElem_cons_zero, Act.put, List.setIfInBounds_toArray, List.set_cons_zero, List.set_cons_succ]
              refine wpAnyH_take (i := 3) (v := ?vg3) rfl (by kernel_rfl) (by kernel_rfl) (by kernel_rfl) (fun _ _ _ h => h) (Or.inl ⟨by rfl, ?hyg3⟩) (by assumption) ?restg3
              case hyg3 => (intro w hSw; (try dsimp only at hSw); go_simp <;> with_reducible rfl)
              try simp only [List.getElem_toArray, List.getElem_cons_succ, List.getElem_cons_zero, Act.put, List.setIfInBounds_toArray, List.set_cons_zero, List.set_cons_succ]
              refine wpAnyH_ready (rs := [2]) (by kernel_rfl) (by simp) ?_
              refine AllReadyH.cons rfl (fun K hK => ?_) AllReadyH.nil
              go_simp
              refine (HCL.out _ (Trm.go HB_r.out (Below.refl _ _).drew)).mono ?_
              rintro e m1 ⟨hd2, rfl, iD, bw⟩
              have HM1 := Lib.hid (show Below wr.heap.size wr m1 from Lvl.undrew bw)
              have ID := Lib.hid iD
              clear iD
              dsimp only [Tm.val, Tm.vals]
              clear bw
              refine hK.out _ _ (⟨(five_cells (Lvl.keep HM1.out XA_r.out)).1, (five_cells (Lvl.keep HM1.out XA_r.out)).2.1, (five_cells (Lvl.keep HM1.out XA_r.out)).2.2.1, (five_cells (Lvl.keep HM1.out XA_r.out)).2.2.2.1, (five_cells (Lvl.keep HM1.out XA_r.out)).2.2.2.2, (five_cells (Lvl.keep HM1.out XB_r.out)).1, (five_cells (Lvl.keep HM1.out XB_r.out)).2.1, (five_cells (Lvl.keep HM1.out XB_r.out)).2.2.1, (five_cells (Lvl.keep HM1.out XB_r.out)).2.2.2.1, (five_cells (Lvl.keep HM1.out XB_r.out)).2.2.2.2⟩) (fun hHeld => ?_)
              clear hK K
              try simp only [List.getElem_toArray, List.getElem_cons_succ, List.getElem_cons_zero, Act.put, List.setIfInBounds_toArray, List.set_cons_zero, List.set_cons_succ]
              refine wpAnyH_ready (rs := [4]) (by kernel_rfl) (by simp) ?_
              refine AllReadyH.cons rfl (fun K hK => ?_) AllReadyH.nil
              go_simp
              refine (HCP.out _ _ ID.out (Trm.go HB_r.out HM1.out)).mono ?_
              rintro e m2 ⟨hp2, rfl, iP, bw⟩
              have HM2 := Lib.hid (Trm.go HM1.out bw)
              have IP := Lib.hid iP
              clear iP
              dsimp only [Tm.val, Tm.vals]
              clear bw
              refine hK.out _ _ (⟨(five_cells (Lvl.keep HM2.out XA_r.out)).1, (five_cells (Lvl.keep HM2.out XA_r.out)).2.1, (five_cells (Lvl.keep HM2.out XA_r.out)).2.2.1, (five_cells (Lvl.keep HM2.out XA_r.out)).2.2.2.1, (five_cells (Lvl.keep HM2.out XA_r.out)).2.2.2.2, (five_cells (Lvl.keep HM2.out XB_r.out)).1, (five_cells (Lvl.keep HM2.out XB_r.out)).2.1, (five_cells (Lvl.keep HM2.out XB_r.out)).2.2.1, (five_cells (Lvl.keep HM2.out XB_r.out)).2.2.2.1, (five_cells (Lvl.keep HM2.out XB_r.out)).2.2.2.2⟩) (fun hHeld => ?_)
              clear hK K
              try simp only [List.getElem_toArray, List.getElem_cons_succ, List.getElem_cons_zero, Act.put, List.setIfInBounds_toArray, List.set_cons_zero, List.set_cons_succ]
              refine wpAnyH_ready (rs := [5]) (by kernel_rfl) (by simp) ?_
              refine AllReadyH.cons rfl (fun K hK => ?_) AllReadyH.nil
              go_simp
              refine (HMP1.out _ _ IP.out).mono ?_
              rintro e m3 ⟨rfl, bw⟩
              have HM3 := Lib.hid (Trm.go HM2.out bw)
              clear bw
              refine hK.out _ _ (⟨(five_cells (Lvl.keep HM3.out XA_r.out)).1, (five_cells (Lvl.keep HM3.out XA_r.out)).2.1, (five_cells (Lvl.keep HM3.out XA_r.out)).2.2.1, (five_cells (Lvl.keep HM3.out XA_r.out)).2.2.2.1, (five_cells (Lvl.keep HM3.out XA_r.out)).2.2.2.2, (five_cells (Lvl.keep HM3.out XB_r.out)).1, (five_cells (Lvl.keep HM3.out XB_r.out)).2.1, (five_cells (Lvl.keep HM3.out XB_r.out)).2.2.1, (five_cells (Lvl.keep HM3.out XB_r.out)).2.2.2.1, (five_cells (Lvl.keep HM3.out XB_r.out)).2.2.2.2⟩) (fun hHeld => ?_)
              clear hK K
              try simp only [List.getElem_toArray, List.getElem_cons_succ, List.getElem_cons_zero, Act.put, List.setIfInBounds_toArray, List.set_cons_zero, List.set_cons_succ]
              refine wpAnyH_take (i := 6) (v := ?vg6) rfl (by kernel_rfl) (by kernel_rfl) (by kernel_rfl) (fun _ _ _ h => h) (Or.inl ⟨by rfl, ?hyg6⟩) (by assumption) ?restg6
              case hyg6 => (intro w hSw; (try dsimp only at hSw); go_simp <;> with_reducible rfl)
              try simp only [List.getElem_toArray, List.getElem_cons_succ, List.getElem_cons_zero, Act.put, List.setIfInBounds_toArray, List.set_cons_zero, List.set_cons_succ]
              refine wpAnyH_take (i := 7) (v := undef) rfl (by kernel_rfl) (by kernel_rfl) (by kernel_rfl) (fun _ _ _ h => h) (Or.inr ⟨by rfl, rfl⟩) (by assumption) ?_
              try simp only [List.getElem_toArray, List.getElem_cons_succ, List.getElem_cons_zero, Act.put, List.setIfInBounds_toArray, List.set_cons_zero, List.set_cons_succ]
              refine wpAnyH_take (i := 8) (v := undef) rfl (by kernel_rfl) (by kernel_rfl) (by kernel_rfl) (fun _ _ _ h => h) (Or.inr ⟨by rfl, rfl⟩) (by assumption) ?_
              try simp only [List.getElem_toArray, List.getElem_cons_succ, List.getElem_cons_zero, Act.put, List.setIfInBounds_toArray, List.set_cons_zero, List.set_cons_succ]
              refine wpAnyH_take (i := 9) (v := undef) rfl (by kernel_rfl) (by kernel_rfl) (by kernel_rfl) (fun _ _ _ h => h) (Or.inr ⟨by rfl, rfl⟩) (by assumption) ?_
              try simp only [List.getElem_toArray, List.getElem_cons_succ, List.getElem_cons_zero, Act.put, List.setIfInBounds_toArray, List.set_cons_zero, List.set_cons_succ]
              refine wpAnyH_take (i := 10) (v := undef) rfl (by kernel_rfl) (by kernel_rfl) (by kernel_rfl) (fun _ _ _ h => h) (Or.inr ⟨by rfl, rfl⟩) (by assumption) ?_
              try simp only [List.getElem_toArray, List.getElem_cons_succ, List.getElem_cons_zero, Act.put, List.setIfInBounds_toArray, List.set_cons_zero, List.set_cons_succ]
              refine wpAnyH_take (i := 11) (v := ?vg11) rfl (by kernel_rfl) (by kernel_rfl) (by kernel_rfl) (fun _ _ _ h => h) (Or.inl ⟨by rfl, ?hyg11⟩) (by assumption) ?restg11
              case hyg11 => (intro w hSw; (try dsimp only at hSw); go_simp <;> with_reducible rfl)
              try simp only [List.getElem_toArray, List.getElem_cons_succ, List.getElem_cons_zero, Act.put, List.setIfInBounds_toArray, List.set_cons_zero, List.set_cons_succ]
              refine wpAnyH_done (by kernel_rfl) ?_ _
              clear cA0 cA1 cA2 cA3 cA4 cB0 cB1 cB2 cB3 cB4 XA_r XB_r RZ RU
              have HB_q := Lib.hid (Trm.go HB_r.out HM3.out)
              have RX := Lib.hid (SRow.carry RX.out HM3.out)
              have RY := Lib.hid (SRow.carry RY.out HM3.out)
              clear HM3 HB_r
              go_wp2_with fail
              go_loopw [13, 14] (fun n i wr' => CtRel m3 x y n i wr') (fun _ i _ => x.length - (intOf i).toNat)
              case atStart => exact ⟨0, rfl, by omega, by simp [cnt], Below.refl _ _⟩
              case round =>
                obtain ⟨j, rfl, hj, rfl, hbel⟩ := hrel
                have HBE := Lib.hid hbel
                clear hbel
                have hlx := NX.out
                have hly := NY.out
                have HC1 : Hid (cnt (x.take j) y ≤ 65536 * 65536) := Lib.hid (Nat.le_trans (cnt_le _ _) (Nat.mul_le_mul (by rw [List.length_take]; omega) hly))
                obtain ⟨c, hc⟩ : ∃ c, c = cnt (x.take j) y := ⟨_, rfl⟩
                rw [← hc]
                have HC := Lib.hid hc
                clear hc
                have hc0 : (0 : Int) ≤ (c : Int) := Int.natCast_nonneg _
                have hc1 : (c : Int) ≤ 4294967296 := by have := HC1.out; rw [← HC.out] at this; omega
                by_cases hlt : j < x.length
                · obtain ⟨bx, ox, rfl, hbx, px⟩ := (RX.out.below HBE.out).place j hlt
                  have hj0 : (0 : Int) ≤ (j : Int) := Int.natCast_nonneg _
                  have hj1 : (j : Int) < (x.length : Int) := by omega
                  have ex : (⟨x[j].toArray⟩ : ByteArray).toList = x[j] := by rw [ByteArray.toList_eq]
                  generalize (⟨x[j].toArray⟩ : ByteArray) = sx at px ex
                  obtain ⟨xj, hxj⟩ : ∃ xj, xj = x[j] := ⟨_, rfl⟩
                  have EX : Hid (sx.toList = xj) := Lib.hid (by rw [ex, hxj])
                  have HCN : Hid (cnt (x.take (j + 1)) y = c + y.count xj) := Lib.hid (by rw [List.take_succ_eq_append_getElem hlt, cnt_snoc, ← hxj, HC.out])
                  have PX := Lib.hid px
                  have hbx2 : bx < wr.heap.size := by have := HBE.out.size; omega
                  have HLT := Lib.hid hlt
                  clear hxj ex hlt
                  go_wp2_with fail
                  go_loopw [13, 15] (fun n k wr' => CtRel2 wr c xj y n k wr') (fun _ k _ => y.length - (intOf k).toNat)
                  case atStart => exact ⟨0, rfl, by omega, by simp, Below.refl _ _⟩
                  case round =>
                    obtain ⟨m, rfl, hm, rfl, hbel2⟩ := hrel
                    have HB2 := Lib.hid hbel2
                    clear hbel2
                    have HT1 : Hid ((y.take m).count xj ≤ 65536) := Lib.hid (Nat.le_trans List.count_le_length (by rw [List.length_take]; omega))
                    obtain ⟨t, ht⟩ : ∃ t, t = c + (y.take m).count xj := ⟨_, rfl⟩
                    rw [← ht]
                    have HT := Lib.hid ht
                    clear ht
                    have ht0 : (0 : Int) ≤ (t : Int) := Int.natCast_nonneg _
                    have ht1 : (t : Int) ≤ 4295032832 := by have := HT1.out; have := HT.out; omega
                    by_cases hlt2 : m < y.length
                    · obtain ⟨b1, o1, rfl, hb1, p1⟩ := ((RY.out.below HBE.out).below (HB2.out.mono HBE.out.size)).place m hlt2
                      have px2 := (HB2.out.cell (p := ⟨bx, ox + j, none⟩) hbx2).trans PX.out
                      have hm0 : (0 : Int) ≤ (m : Int) := Int.natCast_nonneg _
                      have hm1 : (m : Int) < (y.length : Int) := by omega
                      have HTK := Lib.hid (take_count (s := xj) hlt2)
                      have e1 : (⟨y[m].toArray⟩ : ByteArray).toList = y[m] := by rw [ByteArray.toList_eq]
                      generalize (⟨y[m].toArray⟩ : ByteArray) = s1 at p1 e1
                      by_cases heq : y[m] = xj
                      · have q : (sx.toList == s1.toList) = true := by rw [e1, EX.out, heq]; exact beq_self_eq_true _
                        have HN : Hid (c + (y.take (m + 1)).count xj = t + 1) := Lib.hid (by rw [HTK.out, if_pos heq, HT.out]; omega)
                        clear e1 heq
                        go_wp2_with fail
                        go_quiet (fail)
                        go_wp2_with fail
                        go_roundw
                        case rel => exact ⟨m + 1, by go_num, by omega, by rw [HN.out]; go_num, HB2.out.trans (drewN_bel _ _ _)⟩
                        case measure => simp [intOf]; omega
                      · have q : (sx.toList == s1.toList) = false := by rw [e1, EX.out]; exact beq_eq_false_iff_ne.2 (Ne.symm heq)
                        have HN : Hid (c + (y.take (m + 1)).count xj = t) := Lib.hid (by rw [HTK.out, if_neg heq, HT.out]; omega)
                        clear e1 heq
                        go_wp2_with fail
                        go_quiet (fail)
                        go_wp2_with fail
                        go_roundw
                        case rel => exact ⟨m + 1, by go_num, by omega, by rw [HN.out], HB2.out.trans (drewN_bel _ _ _)⟩
                        case measure => simp [intOf]; omega
                    · have HN : Hid (cnt (x.take (j + 1)) y = t) := Lib.hid (by rw [HCN.out, HT.out, List.take_of_length_le (by omega)])
                      have HBn := Lib.hid (HBE.out.trans (HB2.out.mono HBE.out.size))
                      go_wp2_with fail
                      go_roundw
                      case rel => exact ⟨j + 1, by go_num, by have := HLT.out; omega, by rw [HN.out], HBn.out⟩
                      case measure => have := HLT.out; simp [intOf]; omega
                · have HN : Hid (c + z.length = x.length + y.length) := Lib.hid (by rw [HC.out, List.take_of_length_le (by omega)]; have := HCT.out; omega)
                  go_wp2_with fail
                  all_goals first
                    | (rename_i hne; exact absurd (by have := HN.out; omega) hne)
                    | (refine (works_any _).mono ?_
                       rintro e vw ⟨rfl, bw⟩
                       have HBw := Lib.hid (Trm.go (HB_q.out.trans (HBE.out.mono HB_q.out.size)) bw)
                       clear bw
                       go_wp2_with fail
                       go_ret
                       exact ⟨rfl, HBw.out⟩)
            · have HST2 := Lib.hid (HST.out rfl)
              clear HST
              go_wp2_with fail
              go_region_held3 (fun w' => w'.cell? ⟨w.heap.size, 0, none⟩ = some (.int .u8 a.k) ∧ w'.cell? ⟨w.heap.size, 1, none⟩ = some (.int .i64 a.n) ∧ w'.cell? ⟨w.heap.size, 2, none⟩ = some (.string a.s) ∧ w'.cell? ⟨w.heap.size, 3, none⟩ = some (.slice ha.lo a.ls.length ha.lc) ∧ w'.cell? ⟨w.heap.size, 4, none⟩ = some (.slice ha.to a.ts.length ha.tc) ∧ w'.cell? ⟨w.heap.size + 1, 0, none⟩ = some (.int .u8 b.k) ∧ w'.cell? ⟨w.heap.size + 1, 1, none⟩ = some (.int .i64 b.n) ∧ w'.cell? ⟨w.heap.size + 1, 2, none⟩ = some (.string b.s) ∧ w'.cell? ⟨w.heap.size + 1, 3, none⟩ = some (.slice hb.lo b.ls.length hb.lc) ∧ w'.cell? ⟨w.heap.size + 1, 4, none⟩ = some (.slice hb.to b.ts.length hb.tc))
                (go_keep)
                (first
                  | (go_at_call 30; (with_reducible refine (HCL.out _ (Trm.go HB_r.out (Below.refl _ _).drew)).mono ?_); rintro e m1 ⟨hd2, rfl, iD, bw⟩; have HM1 := Lib.hid (show Below wr.heap.size wr m1 from Lvl.undrew bw); have ID := Lib.hid iD; clear bw iD cA0 cA1 cA2 cA3 cA4 cB0 cB1 cB2 cB3 cB4; obtain ⟨cA0, cA1, cA2, cA3, cA4⟩ := five_cells (Lvl.keep HM1.out XA_r.out); obtain ⟨cB0, cB1, cB2, cB3, cB4⟩ := five_cells (Lvl.keep HM1.out XB_r.out); dsimp only [Tm.val, Tm.vals])
                  | (go_at_call 29; (with_reducible refine (HCP.out _ _ ID.out (Trm.go HB_r.out HM1.out)).mono ?_); rintro e m2 ⟨hp2, rfl, iP, bw⟩; have HM2 := Lib.hid (Trm.go HM1.out bw); have IP := Lib.hid iP; clear bw iP cA0 cA1 cA2 cA3 cA4 cB0 cB1 cB2 cB3 cB4; obtain ⟨cA0, cA1, cA2, cA3, cA4⟩ := five_cells (Lvl.keep HM2.out XA_r.out); obtain ⟨cB0, cB1, cB2, cB3, cB4⟩ := five_cells (Lvl.keep HM2.out XB_r.out); dsimp only [Tm.val, Tm.vals])
                  | (go_at_call 13; (with_reducible refine (HMP1.out _ _ IP.out).mono ?_); rintro e m3 ⟨rfl, bw⟩; have HM3 := Lib.hid (Trm.go HM2.out bw); clear bw cA0 cA1 cA2 cA3 cA4 cB0 cB1 cB2 cB3 cB4; obtain ⟨cA0, cA1, cA2, cA3, cA4⟩ := five_cells (Lvl.keep HM3.out XA_r.out); obtain ⟨cB0, cB1, cB2, cB3, cB4⟩ := five_cells (Lvl.keep HM3.out XB_r.out))
                  | (go_at_call 26; (with_reducible refine (HST2.out _ HM3.out).mono ?_); rintro e m4 ⟨rfl, bw⟩; have HM4 := Lib.hid (Trm.go HM3.out bw); clear bw cA0 cA1 cA2 cA3 cA4 cB0 cB1 cB2 cB3 cB4; obtain ⟨cA0, cA1, cA2, cA3, cA4⟩ := five_cells (Lvl.keep HM4.out XA_r.out); obtain ⟨cB0, cB1, cB2, cB3, cB4⟩ := five_cells (Lvl.keep HM4.out XB_r.out)))
              clear HCL HCP HMP1 HST2 HM1 HM2 HM3 ID IP
              clear cA0 cA1 cA2 cA3 cA4 cB0 cB1 cB2 cB3 cB4 XA_r XB_r RZ RU
              have HB_q := Lib.hid (Trm.go HB_r.out HM4.out)
              have RX := Lib.hid (SRow.carry RX.out HM4.out)
              have RY := Lib.hid (SRow.carry RY.out HM4.out)
              clear HM4 HB_r
              go_wp2_with fail
              go_loopw [13, 14] (fun n i wr' => CtRel m4 x y n i wr') (fun _ i _ => x.length - (intOf i).toNat)
              case atStart => exact ⟨0, rfl, by omega, by simp [cnt], Below.refl _ _⟩
              case round =>
                obtain ⟨j, rfl, hj, rfl, hbel⟩ := hrel
                have HBE := Lib.hid hbel
                clear hbel
                have hlx := NX.out
                have hly := NY.out
                have HC1 : Hid (cnt (x.take j) y ≤ 65536 * 65536) := Lib.hid (Nat.le_trans (cnt_le _ _) (Nat.mul_le_mul (by rw [List.length_take]; omega) hly))
                obtain ⟨c, hc⟩ : ∃ c, c = cnt (x.take j) y := ⟨_, rfl⟩
                rw [← hc]
                have HC := Lib.hid hc
                clear hc
                have hc0 : (0 : Int) ≤ (c : Int) := Int.natCast_nonneg _
                have hc1 : (c : Int) ≤ 4294967296 := by have := HC1.out; rw [← HC.out] at this; omega
                by_cases hlt : j < x.length
                · obtain ⟨bx, ox, rfl, hbx, px⟩ := (RX.out.below HBE.out).place j hlt
                  have hj0 : (0 : Int) ≤ (j : Int) := Int.natCast_nonneg _
                  have hj1 : (j : Int) < (x.length : Int) := by omega
                  have ex : (⟨x[j].toArray⟩ : ByteArray).toList = x[j] := by rw [ByteArray.toList_eq]
                  generalize (⟨x[j].toArray⟩ : ByteArray) = sx at px ex
                  obtain ⟨xj, hxj⟩ : ∃ xj, xj = x[j] := ⟨_, rfl⟩
                  have EX : Hid (sx.toList = xj) := Lib.hid (by rw [ex, hxj])
                  have HCN : Hid (cnt (x.take (j + 1)) y = c + y.count xj) := Lib.hid (by rw [List.take_succ_eq_append_getElem hlt, cnt_snoc, ← hxj, HC.out])
                  have PX := Lib.hid px
                  have hbx2 : bx < wr.heap.size := by have := HBE.out.size; omega
                  have HLT := Lib.hid hlt
                  clear hxj ex hlt
                  go_wp2_with fail
                  go_loopw [13, 15] (fun n k wr' => CtRel2 wr c xj y n k wr') (fun _ k _ => y.length - (intOf k).toNat)
                  case atStart => exact ⟨0, rfl, by omega, by simp, Below.refl _ _⟩
                  case round =>
                    obtain ⟨m, rfl, hm, rfl, hbel2⟩ := hrel
                    have HB2 := Lib.hid hbel2
                    clear hbel2
                    have HT1 : Hid ((y.take m).count xj ≤ 65536) := Lib.hid (Nat.le_trans List.count_le_length (by rw [List.length_take]; omega))
                    obtain ⟨t, ht⟩ : ∃ t, t = c + (y.take m).count xj := ⟨_, rfl⟩
                    rw [← ht]
                    have HT := Lib.hid ht
                    clear ht
                    have ht0 : (0 : Int) ≤ (t : Int) := Int.natCast_nonneg _
                    have ht1 : (t : Int) ≤ 4295032832 := by have := HT1.out; have := HT.out; omega
                    by_cases hlt2 : m < y.length
                    · obtain ⟨b1, o1, rfl, hb1, p1⟩ := ((RY.out.below HBE.out).below (HB2.out.mono HBE.out.size)).place m hlt2
                      have px2 := (HB2.out.cell (p := ⟨bx, ox + j, none⟩) hbx2).trans PX.out
                      have hm0 : (0 : Int) ≤ (m : Int) := Int.natCast_nonneg _
                      have hm1 : (m : Int) < (y.length : Int) := by omega
                      have HTK := Lib.hid (take_count (s := xj) hlt2)
                      have e1 : (⟨y[m].toArray⟩ : ByteArray).toList = y[m] := by rw [ByteArray.toList_eq]
                      generalize (⟨y[m].toArray⟩ : ByteArray) = s1 at p1 e1
                      by_cases heq : y[m] = xj
                      · have q : (sx.toList == s1.toList) = true := by rw [e1, EX.out, heq]; exact beq_self_eq_true _
                        have HN : Hid (c + (y.take (m + 1)).count xj = t + 1) := Lib.hid (by rw [HTK.out, if_pos heq, HT.out]; omega)
                        clear e1 heq
                        go_wp2_with fail
                        go_quiet (fail)
                        go_wp2_with fail
                        go_roundw
                        case rel => exact ⟨m + 1, by go_num, by omega, by rw [HN.out]; go_num, HB2.out.trans (drewN_bel _ _ _)⟩
                        case measure => simp [intOf]; omega
                      · have q : (sx.toList == s1.toList) = false := by rw [e1, EX.out]; exact beq_eq_false_iff_ne.2 (Ne.symm heq)
                        have HN : Hid (c + (y.take (m + 1)).count xj = t) := Lib.hid (by rw [HTK.out, if_neg heq, HT.out]; omega)
                        clear e1 heq
                        go_wp2_with fail
                        go_quiet (fail)
                        go_wp2_with fail
                        go_roundw
                        case rel => exact ⟨m + 1, by go_num, by omega, by rw [HN.out], HB2.out.trans (drewN_bel _ _ _)⟩
                        case measure => simp [intOf]; omega
                    · have HN : Hid (cnt (x.take (j + 1)) y = t) := Lib.hid (by rw [HCN.out, HT.out, List.take_of_length_le (by omega)])
                      have HBn := Lib.hid (HBE.out.trans (HB2.out.mono HBE.out.size))
                      go_wp2_with fail
                      go_roundw
                      case rel => exact ⟨j + 1, by go_num, by have := HLT.out; omega, by rw [HN.out], HBn.out⟩
                      case measure => have := HLT.out; simp [intOf]; omega
                · have HN : Hid (c + z.length = x.length + y.length) := Lib.hid (by rw [HC.out, List.take_of_length_le (by omega)]; have := HCT.out; omega)
                  go_wp2_with fail
                  all_goals first
                    | (rename_i hne; exact absurd (by have := HN.out; omega) hne)
                    | (refine (works_any _).mono ?_
                       rintro e vw ⟨rfl, bw⟩
                       have HBw := Lib.hid (Trm.go (HB_q.out.trans (HBE.out.mono HB_q.out.size)) bw)
                       clear bw
                       go_wp2_with fail
                       go_ret
                       exact ⟨rfl, HBw.out⟩)
end Go.Proofs.Ytijdlihodpodjaa
