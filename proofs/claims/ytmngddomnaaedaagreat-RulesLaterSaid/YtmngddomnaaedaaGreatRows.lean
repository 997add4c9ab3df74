/-
  NARROWER THAN 'FOR EVERY INPUT', by the rows' own cells (each row's printed sentence says how): RulesNumbers: loops · RulesNil: loops · RulesFields: loops · RulesLists: loops · RulesLater: loops · ReducePlays: loops · ReduceAgain: loops · ReduceParts: loops.
  DERIVED. THE GIVEN ROWS OF THIS SEAT. 9 by the template 'for every input the law returns true; each argument reads behind the call as it read before'; 0 by the template 'total and deterministic' (their statements: YtmngddomnaaedaaGreatTotals.lean).
  GIVEN WITH THE SEED: the statements are not yours to turn. If you find one false, say at which input.
  Laid BY PROGRAM, IN A SANDBOX (cutbox-rows.mjs): the forced cells as the released guide's own fill.sh prints them over the translation 94a395ae1f298fe0… (all of the seat's roots in one cut). By AI agents, Wed Nov 11 2026. No macro, syntax, notation, axiom, sorry.
-/
import Derived.Test.YtmngddomnaaedaaGreatChecked
import GoSem.Claim
import GoSem.ClaimJoined
import GoSem.ClaimMapViews
import Derived.JoinedTies
import Derived.KernelRfl
namespace Go.Proofs.YtmngddomnaaedaaGreat
/- THE CELL 'sum', in the pinned program and in every row, IS THE sha256 OF THE DUMP (.gsa) THAT YtmngddomnaaedaaGreatProg.lean LOADS. Nothing in Lean hashes anything: it is a label: what it is worth is what the hold of that sum in a sandbox is worth. -/
noncomputable def Tryz.pinned : Pinned := { name := "ytmngddomnaaedaagreat", sum := "94a395ae1f298fe07ce2506df147be3b67f17bf93e1dddfd4f143511302bf8f8", checked := Tryz.checked }
namespace Rows
def none {H : Type} : Left H := { results := [], args := [] }

/-- 'battenlaw08.RulesNumbers': WHATEVER THE INPUT: true; the input reads as it did. -/
def rulesNumbersSpec : ChangeSpec := { name := "rulesNumbers", fn := fun _ => fun
  | [d1, d2, d3, d4] => { results := [.lit (.bool true)], args := [d1, d2, d3, d4] }
  | _ => none }
def rulesNumbersRow : OpenClaim := { program := "ytmngddomnaaedaagreat", sum := "94a395ae1f298fe07ce2506df147be3b67f17bf93e1dddfd4f143511302bf8f8", func := "batten/battenlaw08.RulesNumbers", spec := "rulesNumbers", unfollowed := true, recurses := true, loops := true, apart := false }
def RulesNumbersSaid : Prop := rulesNumbersRow.holds Tryz.pinned (OpenSpec.ofChange rulesNumbersSpec)

/-- ITS FALSE NEIGHBOUR: 'it returns false'. Refute it at one input. -/
def rulesNumbersWrong : ChangeSpec := { name := "rulesNumbers", fn := fun _ => fun
  | [d1, d2, d3, d4] => { results := [.lit (.bool false)], args := [d1, d2, d3, d4] }
  | _ => none }
def RulesNumbersWrongFalsely : Prop := rulesNumbersRow.holds Tryz.pinned (OpenSpec.ofChange rulesNumbersWrong)

/-- 'battenlaw08.RulesNil': WHATEVER THE INPUT: true; the input reads as it did. -/
def rulesNilSpec : ChangeSpec := { name := "rulesNil", fn := fun _ => fun
  | [d1, d2, d3] => { results := [.lit (.bool true)], args := [d1, d2, d3] }
  | _ => none }
def rulesNilRow : OpenClaim := { program := "ytmngddomnaaedaagreat", sum := "94a395ae1f298fe07ce2506df147be3b67f17bf93e1dddfd4f143511302bf8f8", func := "batten/battenlaw08.RulesNil", spec := "rulesNil", unfollowed := true, recurses := true, loops := true, apart := false }
def RulesNilSaid : Prop := rulesNilRow.holds Tryz.pinned (OpenSpec.ofChange rulesNilSpec)

/-- ITS FALSE NEIGHBOUR: 'it returns false'. Refute it at one input. -/
def rulesNilWrong : ChangeSpec := { name := "rulesNil", fn := fun _ => fun
  | [d1, d2, d3] => { results := [.lit (.bool false)], args := [d1, d2, d3] }
  | _ => none }
def RulesNilWrongFalsely : Prop := rulesNilRow.holds Tryz.pinned (OpenSpec.ofChange rulesNilWrong)

/-- 'battenlaw08.RulesFields': WHATEVER THE INPUT: true; the input reads as it did. -/
def rulesFieldsSpec : ChangeSpec := { name := "rulesFields", fn := fun _ => fun
  | [d1, d2, d3, d4, d5] => { results := [.lit (.bool true)], args := [d1, d2, d3, d4, d5] }
  | _ => none }
def rulesFieldsRow : OpenClaim := { program := "ytmngddomnaaedaagreat", sum := "94a395ae1f298fe07ce2506df147be3b67f17bf93e1dddfd4f143511302bf8f8", func := "batten/battenlaw08.RulesFields", spec := "rulesFields", unfollowed := true, recurses := true, loops := true, apart := false }
def RulesFieldsSaid : Prop := rulesFieldsRow.holds Tryz.pinned (OpenSpec.ofChange rulesFieldsSpec)

/-- ITS FALSE NEIGHBOUR: 'it returns false'. Refute it at one input. -/
def rulesFieldsWrong : ChangeSpec := { name := "rulesFields", fn := fun _ => fun
  | [d1, d2, d3, d4, d5] => { results := [.lit (.bool false)], args := [d1, d2, d3, d4, d5] }
  | _ => none }
def RulesFieldsWrongFalsely : Prop := rulesFieldsRow.holds Tryz.pinned (OpenSpec.ofChange rulesFieldsWrong)

/-- 'battenlaw08.RulesLists': WHATEVER THE INPUT: true; the input reads as it did. -/
def rulesListsSpec : ChangeSpec := { name := "rulesLists", fn := fun _ => fun
  | [d1, d2, d3, d4, d5, d6, d7] => { results := [.lit (.bool true)], args := [d1, d2, d3, d4, d5, d6, d7] }
  | _ => none }
def rulesListsRow : OpenClaim := { program := "ytmngddomnaaedaagreat", sum := "94a395ae1f298fe07ce2506df147be3b67f17bf93e1dddfd4f143511302bf8f8", func := "batten/battenlaw08.RulesLists", spec := "rulesLists", unfollowed := true, recurses := true, loops := true, apart := false }
def RulesListsSaid : Prop := rulesListsRow.holds Tryz.pinned (OpenSpec.ofChange rulesListsSpec)

/-- ITS FALSE NEIGHBOUR: 'it returns false'. Refute it at one input. -/
def rulesListsWrong : ChangeSpec := { name := "rulesLists", fn := fun _ => fun
  | [d1, d2, d3, d4, d5, d6, d7] => { results := [.lit (.bool false)], args := [d1, d2, d3, d4, d5, d6, d7] }
  | _ => none }
def RulesListsWrongFalsely : Prop := rulesListsRow.holds Tryz.pinned (OpenSpec.ofChange rulesListsWrong)

/-- 'battenlaw08.RulesLater': WHATEVER THE INPUT: true; the input reads as it did. -/
def rulesLaterSpec : ChangeSpec := { name := "rulesLater", fn := fun _ => fun
  | [d1, d2, d3] => { results := [.lit (.bool true)], args := [d1, d2, d3] }
  | _ => none }
def rulesLaterRow : OpenClaim := { program := "ytmngddomnaaedaagreat", sum := "94a395ae1f298fe07ce2506df147be3b67f17bf93e1dddfd4f143511302bf8f8", func := "batten/battenlaw08.RulesLater", spec := "rulesLater", unfollowed := true, recurses := true, loops := true, apart := false }
def RulesLaterSaid : Prop := rulesLaterRow.holds Tryz.pinned (OpenSpec.ofChange rulesLaterSpec)

/-- ITS FALSE NEIGHBOUR: 'it returns false'. Refute it at one input. -/
def rulesLaterWrong : ChangeSpec := { name := "rulesLater", fn := fun _ => fun
  | [d1, d2, d3] => { results := [.lit (.bool false)], args := [d1, d2, d3] }
  | _ => none }
def RulesLaterWrongFalsely : Prop := rulesLaterRow.holds Tryz.pinned (OpenSpec.ofChange rulesLaterWrong)

/-- 'battenlaw09.ReducePlays': WHATEVER THE INPUT: true; the input reads as it did. -/
def reducePlaysSpec : ChangeSpec := { name := "reducePlays", fn := fun _ => fun
  | [d1, d2] => { results := [.lit (.bool true)], args := [d1, d2] }
  | _ => none }
def reducePlaysRow : OpenClaim := { program := "ytmngddomnaaedaagreat", sum := "94a395ae1f298fe07ce2506df147be3b67f17bf93e1dddfd4f143511302bf8f8", func := "batten/battenlaw09.ReducePlays", spec := "reducePlays", unfollowed := true, recurses := true, loops := true, apart := false }
def ReducePlaysSaid : Prop := reducePlaysRow.holds Tryz.pinned (OpenSpec.ofChange reducePlaysSpec)

/-- ITS FALSE NEIGHBOUR: 'it returns false'. Refute it at one input. -/
def reducePlaysWrong : ChangeSpec := { name := "reducePlays", fn := fun _ => fun
  | [d1, d2] => { results := [.lit (.bool false)], args := [d1, d2] }
  | _ => none }
def ReducePlaysWrongFalsely : Prop := reducePlaysRow.holds Tryz.pinned (OpenSpec.ofChange reducePlaysWrong)

/-- 'battenlaw09.ReduceAgain': WHATEVER THE INPUT: true; the input reads as it did. -/
def reduceAgainSpec : ChangeSpec := { name := "reduceAgain", fn := fun _ => fun
  | [d1, d2, d3] => { results := [.lit (.bool true)], args := [d1, d2, d3] }
  | _ => none }
def reduceAgainRow : OpenClaim := { program := "ytmngddomnaaedaagreat", sum := "94a395ae1f298fe07ce2506df147be3b67f17bf93e1dddfd4f143511302bf8f8", func := "batten/battenlaw09.ReduceAgain", spec := "reduceAgain", unfollowed := true, recurses := true, loops := true, apart := false }
def ReduceAgainSaid : Prop := reduceAgainRow.holds Tryz.pinned (OpenSpec.ofChange reduceAgainSpec)

/-- ITS FALSE NEIGHBOUR: 'it returns false'. Refute it at one input. -/
def reduceAgainWrong : ChangeSpec := { name := "reduceAgain", fn := fun _ => fun
  | [d1, d2, d3] => { results := [.lit (.bool false)], args := [d1, d2, d3] }
  | _ => none }
def ReduceAgainWrongFalsely : Prop := reduceAgainRow.holds Tryz.pinned (OpenSpec.ofChange reduceAgainWrong)

/-- 'battenlaw09.ReduceSums': WHATEVER THE INPUT: true; the input reads as it did. -/
def reduceSumsSpec : ChangeSpec := { name := "reduceSums", fn := fun _ => fun
  | [d] => { results := [.lit (.bool true)], args := [d] }
  | _ => none }
def reduceSumsRow : OpenClaim := { program := "ytmngddomnaaedaagreat", sum := "94a395ae1f298fe07ce2506df147be3b67f17bf93e1dddfd4f143511302bf8f8", func := "batten/battenlaw09.ReduceSums", spec := "reduceSums", unfollowed := true, recurses := true, apart := false }
def ReduceSumsSaid : Prop := reduceSumsRow.holds Tryz.pinned (OpenSpec.ofChange reduceSumsSpec)

/-- ITS FALSE NEIGHBOUR: 'it returns false'. Refute it at one input. -/
def reduceSumsWrong : ChangeSpec := { name := "reduceSums", fn := fun _ => fun
  | [d] => { results := [.lit (.bool false)], args := [d] }
  | _ => none }
def ReduceSumsWrongFalsely : Prop := reduceSumsRow.holds Tryz.pinned (OpenSpec.ofChange reduceSumsWrong)

/-- 'battenlaw09.ReduceParts': WHATEVER THE INPUT: true; the input reads as it did. -/
def reducePartsSpec : ChangeSpec := { name := "reduceParts", fn := fun _ => fun
  | [d1, d2, d3] => { results := [.lit (.bool true)], args := [d1, d2, d3] }
  | _ => none }
def reducePartsRow : OpenClaim := { program := "ytmngddomnaaedaagreat", sum := "94a395ae1f298fe07ce2506df147be3b67f17bf93e1dddfd4f143511302bf8f8", func := "batten/battenlaw09.ReduceParts", spec := "reduceParts", unfollowed := true, recurses := true, loops := true, apart := false }
def ReducePartsSaid : Prop := reducePartsRow.holds Tryz.pinned (OpenSpec.ofChange reducePartsSpec)

/-- ITS FALSE NEIGHBOUR: 'it returns false'. Refute it at one input. -/
def reducePartsWrong : ChangeSpec := { name := "reduceParts", fn := fun _ => fun
  | [d1, d2, d3] => { results := [.lit (.bool false)], args := [d1, d2, d3] }
  | _ => none }
def ReducePartsWrongFalsely : Prop := reducePartsRow.holds Tryz.pinned (OpenSpec.ofChange reducePartsWrong)

/- THE SECOND FORM. 'bulk': how many values and letters a reading holds, each counted each time it is reached (what is shared counts as often as it is met; a slice's spare places count too). A statement '..UptoSaid' is the law's where the arguments, and the package variables that the reading takes, are together of bulk at most 1048576: NARROWER than '..Said'. Prove '..Said' where nothing that the law and all that it calls make is longer than what came in: it says more and counts as full. Else prove '..UptoSaid'. A law counts once. -/
mutual
def uptoBulk {H : Type} : DataW H → Nat
  | .lit (.string bytes) => bytes.length + 1
  | .lit _ => 1
  | .nil => 1
  | .ptr d => uptoBulk d + 1
  | .slice elems spare => uptoBulkAll elems + uptoBulkAll spare + 1
  | .agg parts => uptoBulkAll parts + 1
  | .iface _ d => uptoBulk d + 1
  | .map entries => uptoBulkEntries entries + 1
  | .held _ => 1
def uptoBulkAll {H : Type} : List (DataW H) → Nat
  | [] => 0
  | d :: r => uptoBulk d + uptoBulkAll r
def uptoBulkEntries {H : Type} : List (Lit × DataW H) → Nat
  | [] => 0
  | x :: r => uptoBulkEntry x + uptoBulkEntries r
def uptoBulkEntry {H : Type} : Lit × DataW H → Nat
  | (.string bytes, d) => bytes.length + uptoBulk d + 1
  | (_, d) => uptoBulk d + 1
 end
def uptoSmall : (H : Type) → List (DataW H) → Bool := fun _ ds => decide (uptoBulkAll ds ≤ 1048576)
def OpenSpec.upto (s : _root_.Go.ChangeSpec) : _root_.Go.OpenSpec := { _root_.Go.OpenSpec.ofChange s with cond := some uptoSmall }

/-- 'battenlaw08.RulesNumbers', WHERE WHAT IT READS IS OF BULK AT MOST 1048576: true; the input reads as it did. -/
def rulesNumbersUptoRow : OpenClaim := { program := "ytmngddomnaaedaagreat", sum := "94a395ae1f298fe07ce2506df147be3b67f17bf93e1dddfd4f143511302bf8f8", func := "batten/battenlaw08.RulesNumbers", spec := "rulesNumbers", unfollowed := true, recurses := true, loops := true, apart := false, narrowed := true }
def RulesNumbersUptoSaid : Prop := rulesNumbersUptoRow.holds Tryz.pinned (OpenSpec.upto rulesNumbersSpec)

/-- 'battenlaw08.RulesNil', WHERE WHAT IT READS IS OF BULK AT MOST 1048576: true; the input reads as it did. -/
def rulesNilUptoRow : OpenClaim := { program := "ytmngddomnaaedaagreat", sum := "94a395ae1f298fe07ce2506df147be3b67f17bf93e1dddfd4f143511302bf8f8", func := "batten/battenlaw08.RulesNil", spec := "rulesNil", unfollowed := true, recurses := true, loops := true, apart := false, narrowed := true }
def RulesNilUptoSaid : Prop := rulesNilUptoRow.holds Tryz.pinned (OpenSpec.upto rulesNilSpec)

/-- 'battenlaw08.RulesFields', WHERE WHAT IT READS IS OF BULK AT MOST 1048576: true; the input reads as it did. -/
def rulesFieldsUptoRow : OpenClaim := { program := "ytmngddomnaaedaagreat", sum := "94a395ae1f298fe07ce2506df147be3b67f17bf93e1dddfd4f143511302bf8f8", func := "batten/battenlaw08.RulesFields", spec := "rulesFields", unfollowed := true, recurses := true, loops := true, apart := false, narrowed := true }
def RulesFieldsUptoSaid : Prop := rulesFieldsUptoRow.holds Tryz.pinned (OpenSpec.upto rulesFieldsSpec)

/-- 'battenlaw08.RulesLists', WHERE WHAT IT READS IS OF BULK AT MOST 1048576: true; the input reads as it did. -/
def rulesListsUptoRow : OpenClaim := { program := "ytmngddomnaaedaagreat", sum := "94a395ae1f298fe07ce2506df147be3b67f17bf93e1dddfd4f143511302bf8f8", func := "batten/battenlaw08.RulesLists", spec := "rulesLists", unfollowed := true, recurses := true, loops := true, apart := false, narrowed := true }
def RulesListsUptoSaid : Prop := rulesListsUptoRow.holds Tryz.pinned (OpenSpec.upto rulesListsSpec)

/-- 'battenlaw08.RulesLater', WHERE WHAT IT READS IS OF BULK AT MOST 1048576: true; the input reads as it did. -/
def rulesLaterUptoRow : OpenClaim := { program := "ytmngddomnaaedaagreat", sum := "94a395ae1f298fe07ce2506df147be3b67f17bf93e1dddfd4f143511302bf8f8", func := "batten/battenlaw08.RulesLater", spec := "rulesLater", unfollowed := true, recurses := true, loops := true, apart := false, narrowed := true }
def RulesLaterUptoSaid : Prop := rulesLaterUptoRow.holds Tryz.pinned (OpenSpec.upto rulesLaterSpec)

/-- 'battenlaw09.ReducePlays', WHERE WHAT IT READS IS OF BULK AT MOST 1048576: true; the input reads as it did. -/
def reducePlaysUptoRow : OpenClaim := { program := "ytmngddomnaaedaagreat", sum := "94a395ae1f298fe07ce2506df147be3b67f17bf93e1dddfd4f143511302bf8f8", func := "batten/battenlaw09.ReducePlays", spec := "reducePlays", unfollowed := true, recurses := true, loops := true, apart := false, narrowed := true }
def ReducePlaysUptoSaid : Prop := reducePlaysUptoRow.holds Tryz.pinned (OpenSpec.upto reducePlaysSpec)

/-- 'battenlaw09.ReduceAgain', WHERE WHAT IT READS IS OF BULK AT MOST 1048576: true; the input reads as it did. -/
def reduceAgainUptoRow : OpenClaim := { program := "ytmngddomnaaedaagreat", sum := "94a395ae1f298fe07ce2506df147be3b67f17bf93e1dddfd4f143511302bf8f8", func := "batten/battenlaw09.ReduceAgain", spec := "reduceAgain", unfollowed := true, recurses := true, loops := true, apart := false, narrowed := true }
def ReduceAgainUptoSaid : Prop := reduceAgainUptoRow.holds Tryz.pinned (OpenSpec.upto reduceAgainSpec)

/-- 'battenlaw09.ReduceSums', WHERE WHAT IT READS IS OF BULK AT MOST 1048576: true; the input reads as it did. -/
def reduceSumsUptoRow : OpenClaim := { program := "ytmngddomnaaedaagreat", sum := "94a395ae1f298fe07ce2506df147be3b67f17bf93e1dddfd4f143511302bf8f8", func := "batten/battenlaw09.ReduceSums", spec := "reduceSums", unfollowed := true, recurses := true, apart := false, narrowed := true }
def ReduceSumsUptoSaid : Prop := reduceSumsUptoRow.holds Tryz.pinned (OpenSpec.upto reduceSumsSpec)

/-- 'battenlaw09.ReduceParts', WHERE WHAT IT READS IS OF BULK AT MOST 1048576: true; the input reads as it did. -/
def reducePartsUptoRow : OpenClaim := { program := "ytmngddomnaaedaagreat", sum := "94a395ae1f298fe07ce2506df147be3b67f17bf93e1dddfd4f143511302bf8f8", func := "batten/battenlaw09.ReduceParts", spec := "reduceParts", unfollowed := true, recurses := true, loops := true, apart := false, narrowed := true }
def ReducePartsUptoSaid : Prop := reducePartsUptoRow.holds Tryz.pinned (OpenSpec.upto reducePartsSpec)

end Rows
end Go.Proofs.YtmngddomnaaedaaGreat
