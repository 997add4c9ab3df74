/-
  octet.PutName: what it returns, and that it writes nothing that was there.
-/
import Derived.Test.YtfechgahafbphaaOctName
import Derived.Lib.AppendStr
namespace Go.Proofs.Ytfechgahafbphaa
open Go.RowKit Oct

theorem Oct.strCells_eq (s : ByteArray) : Lib.strCells s = cells s.data.toList := rfl

/-- A slice of the call's own that reads as out, and no error. -/
def Oct.MadeOk (w : World) (out : List UInt8) (e : Ending) (w' : World) : Prop :=
  ∃ v, e = .returned (.tuple #[v, .int .i64 0]) ∧ w'.ownsRow w.heap.size 5 1 v out.length (cells out) ∧ Below w.heap.size w w'
/-- Nothing, and the error ErrName; nothing has turned. -/
def Oct.NotName (w : World) (e : Ending) (w' : World) : Prop := e = .returned (.tuple #[.slice none 0 0, .int .i64 5]) ∧ w = w'

set_option maxRecDepth 100000 in
set_option maxHeartbeats 1000000 in
theorem putName_no (w : World) (ao : Option Addr) (n cap : Nat) (s : ByteArray) (hs : s.size ≤ 1000000) (hn : isName s.data.toList = false) :
    Calls Try.prog 82 #[.slice ao n cap, .string s] w (NotName w) := by
  have HN := Lib.hid hn
  clear hn
  go_enter Try.func82, Try.ntmps82
  go_wp2_with (go_at_call 84; refine (name_any _ _ hs).mono ?_; rw [HN.out]; rintro e w' ⟨rfl, rfl⟩)
  go_ret2
  exact ⟨rfl, rfl⟩

set_option maxRecDepth 100000 in
set_option maxHeartbeats 1000000 in
theorem putName_yes (w : World) (ao : Option Addr) (cap : Nat) (bs : List UInt8) (s : ByteArray) (hb : Row w ao cap bs) (hl : bs.length ≤ 900000) (hs : s.size ≤ 1000000) (hn : isName s.data.toList = true) :
    Calls Try.prog 82 #[.slice ao bs.length cap, .string s] w (MadeOk w (bs ++ enc s.size ++ s.data.toList)) := by
  have HN := Lib.hid hn
  clear hn
  have he := enc_length_le (n := s.size) (by omega)
  obtain ⟨i0, hi, hz0, hz1, hz2⟩ := info_parts Try.info5
  have hl2 : (bs ++ enc s.size).length ≤ 1000010 := by simp only [List.length_append]; omega
  obtain ⟨G, hG⟩ : ∃ G, G = bs ++ enc s.size := ⟨_, rfl⟩
  have HG := Lib.hid hG
  rw [← hG] at hl2 ⊢
  clear hG
  go_enter Try.func82, Try.ntmps82
  go_wp2_with (first
    | (go_at_call 84; refine (name_any _ _ hs).mono ?_; rw [HN.out]; rintro e w' ⟨rfl, rfl⟩)
    | (go_at_call 83; refine (put_any _ _ _ _ _ he hb (by omega)).mono ?_; rw [← HG.out]; rintro e w1 ⟨v1, rfl, own1, bel1⟩)
    | (refine Lib.wpList_append_own_string _ rfl _ _ 22 9 rfl w.heap.size 5 i0 Try.underlying22 Try.underlying9 hi hz0 hz1 hz2 _ _ _ rfl own1 s rfl (by unfold maxLen; omega) (by omega) bel1.size ?_; intro v' w2 own2 g2 _))
  go_ret2
  refine ⟨v', rfl, ?_, bel1.grown g2 bel1.size (fun k hk => (own1.lt k hk).1)⟩
  rw [strCells_eq, ← cells_append] at own2
  have e : (G ++ s.data.toList).length = G.length + s.size := by simp
  rw [e]
  exact own2
end Go.Proofs.Ytfechgahafbphaa
