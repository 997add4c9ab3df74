/-
  NARROWER THAN 'FOR EVERY INPUT', by the rows' own cells (each row's printed sentence says how): TermPlays: loops · TermNames: loops · SubstLifts: loops · SubstInsts: loops · SubstLaws: loops · SubstTwice: loops · SubstNames: loops · SubstLevels: loops.
  DERIVED. THE GIVEN ROWS OF THIS SEAT. 12 by the template 'for every input the law returns true; each argument reads behind the call as it read before'; 0 by the template 'total and deterministic' (their statements: YtfechgahafbphaaTotals.lean).
  GIVEN WITH THE SEED: the statements are not yours to turn. If you find one false, say at which input.
  Laid BY PROGRAM, IN A SANDBOX (cutbox-rows.mjs): the forced cells as the released guide's own fill.sh prints them over the translation 71f7e61ea933837b… (all of the seat's roots in one cut). By AI agents, Wed Nov 11 2026. No macro, syntax, notation, axiom, sorry.
-/
import Derived.Test.YtfechgahafbphaaChecked
import GoSem.Claim
import GoSem.ClaimJoined
import GoSem.ClaimMapViews
import Derived.JoinedTies
import Derived.KernelRfl
namespace Go.Proofs.Ytfechgahafbphaa
/- THE CELL 'sum', in the pinned program and in every row, IS THE sha256 OF THE DUMP (.gsa) THAT YtfechgahafbphaaProg.lean LOADS. Nothing in Lean hashes anything: it is a label: what it is worth is what the hold of that sum in a sandbox is worth. -/
noncomputable def Try.pinned : Pinned := { name := "ytfechgahafbphaa", sum := "71f7e61ea933837bca62677e40ff06b5f3cc50bf101789830c9ba85812645021", checked := Try.checked }
namespace Rows
def none {H : Type} : Left H := { results := [], args := [] }

/-- 'battenlaw01.OctetReads': WHATEVER THE INPUT: true; the input reads as it did. -/
def octetReadsSpec : ChangeSpec := { name := "octetReads", fn := fun _ => fun
  | [d1, d2] => { results := [.lit (.bool true)], args := [d1, d2] }
  | _ => none }
def octetReadsRow : OpenClaim := { program := "ytfechgahafbphaa", sum := "71f7e61ea933837bca62677e40ff06b5f3cc50bf101789830c9ba85812645021", func := "batten/battenlaw01.OctetReads", spec := "octetReads", unfollowed := true, recurses := true, apart := false }
def OctetReadsSaid : Prop := octetReadsRow.holds Try.pinned (OpenSpec.ofChange octetReadsSpec)

/-- ITS FALSE NEIGHBOUR: 'it returns false'. Refute it at one input. -/
def octetReadsWrong : ChangeSpec := { name := "octetReads", fn := fun _ => fun
  | [d1, d2] => { results := [.lit (.bool false)], args := [d1, d2] }
  | _ => none }
def OctetReadsWrongFalsely : Prop := octetReadsRow.holds Try.pinned (OpenSpec.ofChange octetReadsWrong)

/-- 'battenlaw02.LevelPlays': WHATEVER THE INPUT: true; the input reads as it did. -/
def levelPlaysSpec : ChangeSpec := { name := "levelPlays", fn := fun _ => fun
  | [d1, d2, d3, d4, d5] => { results := [.lit (.bool true)], args := [d1, d2, d3, d4, d5] }
  | _ => none }
def levelPlaysRow : OpenClaim := { program := "ytfechgahafbphaa", sum := "71f7e61ea933837bca62677e40ff06b5f3cc50bf101789830c9ba85812645021", func := "batten/battenlaw02.LevelPlays", spec := "levelPlays", unfollowed := true, recurses := true, apart := false }
def LevelPlaysSaid : Prop := levelPlaysRow.holds Try.pinned (OpenSpec.ofChange levelPlaysSpec)

/-- ITS FALSE NEIGHBOUR: 'it returns false'. Refute it at one input. -/
def levelPlaysWrong : ChangeSpec := { name := "levelPlays", fn := fun _ => fun
  | [d1, d2, d3, d4, d5] => { results := [.lit (.bool false)], args := [d1, d2, d3, d4, d5] }
  | _ => none }
def LevelPlaysWrongFalsely : Prop := levelPlaysRow.holds Try.pinned (OpenSpec.ofChange levelPlaysWrong)

/-- 'battenlaw02.LevelInsts': WHATEVER THE INPUT: true; the input reads as it did. -/
def levelInstsSpec : ChangeSpec := { name := "levelInsts", fn := fun _ => fun
  | [d1, d2, d3] => { results := [.lit (.bool true)], args := [d1, d2, d3] }
  | _ => none }
def levelInstsRow : OpenClaim := { program := "ytfechgahafbphaa", sum := "71f7e61ea933837bca62677e40ff06b5f3cc50bf101789830c9ba85812645021", func := "batten/battenlaw02.LevelInsts", spec := "levelInsts", unfollowed := true, recurses := true, apart := false }
def LevelInstsSaid : Prop := levelInstsRow.holds Try.pinned (OpenSpec.ofChange levelInstsSpec)

/-- ITS FALSE NEIGHBOUR: 'it returns false'. Refute it at one input. -/
def levelInstsWrong : ChangeSpec := { name := "levelInsts", fn := fun _ => fun
  | [d1, d2, d3] => { results := [.lit (.bool false)], args := [d1, d2, d3] }
  | _ => none }
def LevelInstsWrongFalsely : Prop := levelInstsRow.holds Try.pinned (OpenSpec.ofChange levelInstsWrong)

/-- 'battenlaw03.TermPlays': WHATEVER THE INPUT: true; the input reads as it did. -/
def termPlaysSpec : ChangeSpec := { name := "termPlays", fn := fun _ => fun
  | [d1, d2, d3, d4] => { results := [.lit (.bool true)], args := [d1, d2, d3, d4] }
  | _ => none }
def termPlaysRow : OpenClaim := { program := "ytfechgahafbphaa", sum := "71f7e61ea933837bca62677e40ff06b5f3cc50bf101789830c9ba85812645021", func := "batten/battenlaw03.TermPlays", spec := "termPlays", unfollowed := true, recurses := true, loops := true, apart := false }
def TermPlaysSaid : Prop := termPlaysRow.holds Try.pinned (OpenSpec.ofChange termPlaysSpec)

/-- ITS FALSE NEIGHBOUR: 'it returns false'. Refute it at one input. -/
def termPlaysWrong : ChangeSpec := { name := "termPlays", fn := fun _ => fun
  | [d1, d2, d3, d4] => { results := [.lit (.bool false)], args := [d1, d2, d3, d4] }
  | _ => none }
def TermPlaysWrongFalsely : Prop := termPlaysRow.holds Try.pinned (OpenSpec.ofChange termPlaysWrong)

/-- 'battenlaw03.TermNames': WHATEVER THE INPUT: true; the input reads as it did. -/
def termNamesSpec : ChangeSpec := { name := "termNames", fn := fun _ => fun
  | [d1, d2] => { results := [.lit (.bool true)], args := [d1, d2] }
  | _ => none }
def termNamesRow : OpenClaim := { program := "ytfechgahafbphaa", sum := "71f7e61ea933837bca62677e40ff06b5f3cc50bf101789830c9ba85812645021", func := "batten/battenlaw03.TermNames", spec := "termNames", unfollowed := true, recurses := true, loops := true, apart := false }
def TermNamesSaid : Prop := termNamesRow.holds Try.pinned (OpenSpec.ofChange termNamesSpec)

/-- ITS FALSE NEIGHBOUR: 'it returns false'. Refute it at one input. -/
def termNamesWrong : ChangeSpec := { name := "termNames", fn := fun _ => fun
  | [d1, d2] => { results := [.lit (.bool false)], args := [d1, d2] }
  | _ => none }
def TermNamesWrongFalsely : Prop := termNamesRow.holds Try.pinned (OpenSpec.ofChange termNamesWrong)

/-- 'battenlaw03.TermBounds': WHATEVER THE INPUT: true; the input reads as it did. -/
def termBoundsSpec : ChangeSpec := { name := "termBounds", fn := fun _ => fun
  | [d1, d2] => { results := [.lit (.bool true)], args := [d1, d2] }
  | _ => none }
def termBoundsRow : OpenClaim := { program := "ytfechgahafbphaa", sum := "71f7e61ea933837bca62677e40ff06b5f3cc50bf101789830c9ba85812645021", func := "batten/battenlaw03.TermBounds", spec := "termBounds", unfollowed := true, recurses := true, apart := false }
def TermBoundsSaid : Prop := termBoundsRow.holds Try.pinned (OpenSpec.ofChange termBoundsSpec)

/-- ITS FALSE NEIGHBOUR: 'it returns false'. Refute it at one input. -/
def termBoundsWrong : ChangeSpec := { name := "termBounds", fn := fun _ => fun
  | [d1, d2] => { results := [.lit (.bool false)], args := [d1, d2] }
  | _ => none }
def TermBoundsWrongFalsely : Prop := termBoundsRow.holds Try.pinned (OpenSpec.ofChange termBoundsWrong)

/-- 'battenlaw04.SubstLifts': WHATEVER THE INPUT: true; the input reads as it did. -/
def substLiftsSpec : ChangeSpec := { name := "substLifts", fn := fun _ => fun
  | [d1, d2, d3, d4] => { results := [.lit (.bool true)], args := [d1, d2, d3, d4] }
  | _ => none }
def substLiftsRow : OpenClaim := { program := "ytfechgahafbphaa", sum := "71f7e61ea933837bca62677e40ff06b5f3cc50bf101789830c9ba85812645021", func := "batten/battenlaw04.SubstLifts", spec := "substLifts", unfollowed := true, recurses := true, loops := true, apart := false }
def SubstLiftsSaid : Prop := substLiftsRow.holds Try.pinned (OpenSpec.ofChange substLiftsSpec)

/-- ITS FALSE NEIGHBOUR: 'it returns false'. Refute it at one input. -/
def substLiftsWrong : ChangeSpec := { name := "substLifts", fn := fun _ => fun
  | [d1, d2, d3, d4] => { results := [.lit (.bool false)], args := [d1, d2, d3, d4] }
  | _ => none }
def SubstLiftsWrongFalsely : Prop := substLiftsRow.holds Try.pinned (OpenSpec.ofChange substLiftsWrong)

/-- 'battenlaw04.SubstInsts': WHATEVER THE INPUT: true; the input reads as it did. -/
def substInstsSpec : ChangeSpec := { name := "substInsts", fn := fun _ => fun
  | [d1, d2, d3] => { results := [.lit (.bool true)], args := [d1, d2, d3] }
  | _ => none }
def substInstsRow : OpenClaim := { program := "ytfechgahafbphaa", sum := "71f7e61ea933837bca62677e40ff06b5f3cc50bf101789830c9ba85812645021", func := "batten/battenlaw04.SubstInsts", spec := "substInsts", unfollowed := true, recurses := true, loops := true, apart := false }
def SubstInstsSaid : Prop := substInstsRow.holds Try.pinned (OpenSpec.ofChange substInstsSpec)

/-- ITS FALSE NEIGHBOUR: 'it returns false'. Refute it at one input. -/
def substInstsWrong : ChangeSpec := { name := "substInsts", fn := fun _ => fun
  | [d1, d2, d3] => { results := [.lit (.bool false)], args := [d1, d2, d3] }
  | _ => none }
def SubstInstsWrongFalsely : Prop := substInstsRow.holds Try.pinned (OpenSpec.ofChange substInstsWrong)

/-- 'battenlaw04.SubstLaws': WHATEVER THE INPUT: true; the input reads as it did. -/
def substLawsSpec : ChangeSpec := { name := "substLaws", fn := fun _ => fun
  | [d1, d2, d3, d4, d5] => { results := [.lit (.bool true)], args := [d1, d2, d3, d4, d5] }
  | _ => none }
def substLawsRow : OpenClaim := { program := "ytfechgahafbphaa", sum := "71f7e61ea933837bca62677e40ff06b5f3cc50bf101789830c9ba85812645021", func := "batten/battenlaw04.SubstLaws", spec := "substLaws", unfollowed := true, recurses := true, loops := true, apart := false }
def SubstLawsSaid : Prop := substLawsRow.holds Try.pinned (OpenSpec.ofChange substLawsSpec)

/-- ITS FALSE NEIGHBOUR: 'it returns false'. Refute it at one input. -/
def substLawsWrong : ChangeSpec := { name := "substLaws", fn := fun _ => fun
  | [d1, d2, d3, d4, d5] => { results := [.lit (.bool false)], args := [d1, d2, d3, d4, d5] }
  | _ => none }
def SubstLawsWrongFalsely : Prop := substLawsRow.holds Try.pinned (OpenSpec.ofChange substLawsWrong)

/-- 'battenlaw04.SubstTwice': WHATEVER THE INPUT: true; the input reads as it did. -/
def substTwiceSpec : ChangeSpec := { name := "substTwice", fn := fun _ => fun
  | [d1, d2, d3] => { results := [.lit (.bool true)], args := [d1, d2, d3] }
  | _ => none }
def substTwiceRow : OpenClaim := { program := "ytfechgahafbphaa", sum := "71f7e61ea933837bca62677e40ff06b5f3cc50bf101789830c9ba85812645021", func := "batten/battenlaw04.SubstTwice", spec := "substTwice", unfollowed := true, recurses := true, loops := true, apart := false }
def SubstTwiceSaid : Prop := substTwiceRow.holds Try.pinned (OpenSpec.ofChange substTwiceSpec)

/-- ITS FALSE NEIGHBOUR: 'it returns false'. Refute it at one input. -/
def substTwiceWrong : ChangeSpec := { name := "substTwice", fn := fun _ => fun
  | [d1, d2, d3] => { results := [.lit (.bool false)], args := [d1, d2, d3] }
  | _ => none }
def SubstTwiceWrongFalsely : Prop := substTwiceRow.holds Try.pinned (OpenSpec.ofChange substTwiceWrong)

/-- 'battenlaw04.SubstNames': WHATEVER THE INPUT: true; the input reads as it did. -/
def substNamesSpec : ChangeSpec := { name := "substNames", fn := fun _ => fun
  | [d1, d2] => { results := [.lit (.bool true)], args := [d1, d2] }
  | _ => none }
def substNamesRow : OpenClaim := { program := "ytfechgahafbphaa", sum := "71f7e61ea933837bca62677e40ff06b5f3cc50bf101789830c9ba85812645021", func := "batten/battenlaw04.SubstNames", spec := "substNames", unfollowed := true, recurses := true, loops := true, apart := false }
def SubstNamesSaid : Prop := substNamesRow.holds Try.pinned (OpenSpec.ofChange substNamesSpec)

/-- ITS FALSE NEIGHBOUR: 'it returns false'. Refute it at one input. -/
def substNamesWrong : ChangeSpec := { name := "substNames", fn := fun _ => fun
  | [d1, d2] => { results := [.lit (.bool false)], args := [d1, d2] }
  | _ => none }
def SubstNamesWrongFalsely : Prop := substNamesRow.holds Try.pinned (OpenSpec.ofChange substNamesWrong)

/-- 'battenlaw04.SubstLevels': WHATEVER THE INPUT: true; the input reads as it did. -/
def substLevelsSpec : ChangeSpec := { name := "substLevels", fn := fun _ => fun
  | [d1, d2, d3] => { results := [.lit (.bool true)], args := [d1, d2, d3] }
  | _ => none }
def substLevelsRow : OpenClaim := { program := "ytfechgahafbphaa", sum := "71f7e61ea933837bca62677e40ff06b5f3cc50bf101789830c9ba85812645021", func := "batten/battenlaw04.SubstLevels", spec := "substLevels", unfollowed := true, recurses := true, loops := true, apart := false }
def SubstLevelsSaid : Prop := substLevelsRow.holds Try.pinned (OpenSpec.ofChange substLevelsSpec)

/-- ITS FALSE NEIGHBOUR: 'it returns false'. Refute it at one input. -/
def substLevelsWrong : ChangeSpec := { name := "substLevels", fn := fun _ => fun
  | [d1, d2, d3] => { results := [.lit (.bool false)], args := [d1, d2, d3] }
  | _ => none }
def SubstLevelsWrongFalsely : Prop := substLevelsRow.holds Try.pinned (OpenSpec.ofChange substLevelsWrong)

/- THE SECOND FORM. 'bulk': how many values and letters a reading holds, each counted each time it is reached (what is shared counts as often as it is met; a slice's spare places count too). A statement '..UptoSaid' is the law's where the arguments, and the package variables that the reading takes, are together of bulk at most 1048576: NARROWER than '..Said'. Prove '..Said' where nothing that the law and all that it calls make is longer than what came in: it says more and counts as full. Else prove '..UptoSaid'. A law counts once. -/
mutual
def uptoBulk {H : Type} : DataW H → Nat
  | .lit (.string bytes) => bytes.length + 1
  | .lit _ => 1
  | .nil => 1
  | .ptr d => uptoBulk d + 1
  | .slice elems spare => uptoBulkAll elems + uptoBulkAll spare + 1
  | .agg parts => uptoBulkAll parts + 1
  | .iface _ d => uptoBulk d + 1
  | .map entries => uptoBulkEntries entries + 1
  | .held _ => 1
def uptoBulkAll {H : Type} : List (DataW H) → Nat
  | [] => 0
  | d :: r => uptoBulk d + uptoBulkAll r
def uptoBulkEntries {H : Type} : List (Lit × DataW H) → Nat
  | [] => 0
  | x :: r => uptoBulkEntry x + uptoBulkEntries r
def uptoBulkEntry {H : Type} : Lit × DataW H → Nat
  | (.string bytes, d) => bytes.length + uptoBulk d + 1
  | (_, d) => uptoBulk d + 1
 end
def uptoSmall : (H : Type) → List (DataW H) → Bool := fun _ ds => decide (uptoBulkAll ds ≤ 1048576)
def OpenSpec.upto (s : _root_.Go.ChangeSpec) : _root_.Go.OpenSpec := { _root_.Go.OpenSpec.ofChange s with cond := some uptoSmall }

/-- 'battenlaw01.OctetReads', WHERE WHAT IT READS IS OF BULK AT MOST 1048576: true; the input reads as it did. -/
def octetReadsUptoRow : OpenClaim := { program := "ytfechgahafbphaa", sum := "71f7e61ea933837bca62677e40ff06b5f3cc50bf101789830c9ba85812645021", func := "batten/battenlaw01.OctetReads", spec := "octetReads", unfollowed := true, recurses := true, apart := false, narrowed := true }
def OctetReadsUptoSaid : Prop := octetReadsUptoRow.holds Try.pinned (OpenSpec.upto octetReadsSpec)

/-- 'battenlaw02.LevelPlays', WHERE WHAT IT READS IS OF BULK AT MOST 1048576: true; the input reads as it did. -/
def levelPlaysUptoRow : OpenClaim := { program := "ytfechgahafbphaa", sum := "71f7e61ea933837bca62677e40ff06b5f3cc50bf101789830c9ba85812645021", func := "batten/battenlaw02.LevelPlays", spec := "levelPlays", unfollowed := true, recurses := true, apart := false, narrowed := true }
def LevelPlaysUptoSaid : Prop := levelPlaysUptoRow.holds Try.pinned (OpenSpec.upto levelPlaysSpec)

/-- 'battenlaw02.LevelInsts', WHERE WHAT IT READS IS OF BULK AT MOST 1048576: true; the input reads as it did. -/
def levelInstsUptoRow : OpenClaim := { program := "ytfechgahafbphaa", sum := "71f7e61ea933837bca62677e40ff06b5f3cc50bf101789830c9ba85812645021", func := "batten/battenlaw02.LevelInsts", spec := "levelInsts", unfollowed := true, recurses := true, apart := false, narrowed := true }
def LevelInstsUptoSaid : Prop := levelInstsUptoRow.holds Try.pinned (OpenSpec.upto levelInstsSpec)

/-- 'battenlaw03.TermPlays', WHERE WHAT IT READS IS OF BULK AT MOST 1048576: true; the input reads as it did. -/
def termPlaysUptoRow : OpenClaim := { program := "ytfechgahafbphaa", sum := "71f7e61ea933837bca62677e40ff06b5f3cc50bf101789830c9ba85812645021", func := "batten/battenlaw03.TermPlays", spec := "termPlays", unfollowed := true, recurses := true, loops := true, apart := false, narrowed := true }
def TermPlaysUptoSaid : Prop := termPlaysUptoRow.holds Try.pinned (OpenSpec.upto termPlaysSpec)

/-- 'battenlaw03.TermNames', WHERE WHAT IT READS IS OF BULK AT MOST 1048576: true; the input reads as it did. -/
def termNamesUptoRow : OpenClaim := { program := "ytfechgahafbphaa", sum := "71f7e61ea933837bca62677e40ff06b5f3cc50bf101789830c9ba85812645021", func := "batten/battenlaw03.TermNames", spec := "termNames", unfollowed := true, recurses := true, loops := true, apart := false, narrowed := true }
def TermNamesUptoSaid : Prop := termNamesUptoRow.holds Try.pinned (OpenSpec.upto termNamesSpec)

/-- 'battenlaw03.TermBounds', WHERE WHAT IT READS IS OF BULK AT MOST 1048576: true; the input reads as it did. -/
def termBoundsUptoRow : OpenClaim := { program := "ytfechgahafbphaa", sum := "71f7e61ea933837bca62677e40ff06b5f3cc50bf101789830c9ba85812645021", func := "batten/battenlaw03.TermBounds", spec := "termBounds", unfollowed := true, recurses := true, apart := false, narrowed := true }
def TermBoundsUptoSaid : Prop := termBoundsUptoRow.holds Try.pinned (OpenSpec.upto termBoundsSpec)

/-- 'battenlaw04.SubstLifts', WHERE WHAT IT READS IS OF BULK AT MOST 1048576: true; the input reads as it did. -/
def substLiftsUptoRow : OpenClaim := { program := "ytfechgahafbphaa", sum := "71f7e61ea933837bca62677e40ff06b5f3cc50bf101789830c9ba85812645021", func := "batten/battenlaw04.SubstLifts", spec := "substLifts", unfollowed := true, recurses := true, loops := true, apart := false, narrowed := true }
def SubstLiftsUptoSaid : Prop := substLiftsUptoRow.holds Try.pinned (OpenSpec.upto substLiftsSpec)

/-- 'battenlaw04.SubstInsts', WHERE WHAT IT READS IS OF BULK AT MOST 1048576: true; the input reads as it did. -/
def substInstsUptoRow : OpenClaim := { program := "ytfechgahafbphaa", sum := "71f7e61ea933837bca62677e40ff06b5f3cc50bf101789830c9ba85812645021", func := "batten/battenlaw04.SubstInsts", spec := "substInsts", unfollowed := true, recurses := true, loops := true, apart := false, narrowed := true }
def SubstInstsUptoSaid : Prop := substInstsUptoRow.holds Try.pinned (OpenSpec.upto substInstsSpec)

/-- 'battenlaw04.SubstLaws', WHERE WHAT IT READS IS OF BULK AT MOST 1048576: true; the input reads as it did. -/
def substLawsUptoRow : OpenClaim := { program := "ytfechgahafbphaa", sum := "71f7e61ea933837bca62677e40ff06b5f3cc50bf101789830c9ba85812645021", func := "batten/battenlaw04.SubstLaws", spec := "substLaws", unfollowed := true, recurses := true, loops := true, apart := false, narrowed := true }
def SubstLawsUptoSaid : Prop := substLawsUptoRow.holds Try.pinned (OpenSpec.upto substLawsSpec)

/-- 'battenlaw04.SubstTwice', WHERE WHAT IT READS IS OF BULK AT MOST 1048576: true; the input reads as it did. -/
def substTwiceUptoRow : OpenClaim := { program := "ytfechgahafbphaa", sum := "71f7e61ea933837bca62677e40ff06b5f3cc50bf101789830c9ba85812645021", func := "batten/battenlaw04.SubstTwice", spec := "substTwice", unfollowed := true, recurses := true, loops := true, apart := false, narrowed := true }
def SubstTwiceUptoSaid : Prop := substTwiceUptoRow.holds Try.pinned (OpenSpec.upto substTwiceSpec)

/-- 'battenlaw04.SubstNames', WHERE WHAT IT READS IS OF BULK AT MOST 1048576: true; the input reads as it did. -/
def substNamesUptoRow : OpenClaim := { program := "ytfechgahafbphaa", sum := "71f7e61ea933837bca62677e40ff06b5f3cc50bf101789830c9ba85812645021", func := "batten/battenlaw04.SubstNames", spec := "substNames", unfollowed := true, recurses := true, loops := true, apart := false, narrowed := true }
def SubstNamesUptoSaid : Prop := substNamesUptoRow.holds Try.pinned (OpenSpec.upto substNamesSpec)

/-- 'battenlaw04.SubstLevels', WHERE WHAT IT READS IS OF BULK AT MOST 1048576: true; the input reads as it did. -/
def substLevelsUptoRow : OpenClaim := { program := "ytfechgahafbphaa", sum := "71f7e61ea933837bca62677e40ff06b5f3cc50bf101789830c9ba85812645021", func := "batten/battenlaw04.SubstLevels", spec := "substLevels", unfollowed := true, recurses := true, loops := true, apart := false, narrowed := true }
def SubstLevelsUptoSaid : Prop := substLevelsUptoRow.holds Try.pinned (OpenSpec.upto substLevelsSpec)

end Rows
end Go.Proofs.Ytfechgahafbphaa
