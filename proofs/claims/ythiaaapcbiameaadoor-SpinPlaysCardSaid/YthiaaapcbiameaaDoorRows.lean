/-
  NARROWER THAN 'FOR EVERY INPUT', by the rows' own cells (each row's printed sentence says how): SpinPlays: laid · SpinTries: laid · SpinNone: laid · SpinHolds: laid.
  DERIVED. THE GIVEN ROWS OF THIS SEAT. 4 by the template 'for every input the law returns true; each argument reads behind the call as it read before'; 0 by the template 'total and deterministic' (their statements: YthiaaapcbiameaaDoorTotals.lean).
  GIVEN WITH THE SEED: the statements are not yours to turn. If you find one false, say at which input.
  Laid BY PROGRAM, IN A SANDBOX (cutbox-rows.mjs): the forced cells as the released guide's own fill.sh prints them over the translation 0930be8c2c6c9a64… (all of the seat's roots in one cut). By AI agents, Wed Nov 11 2026. No macro, syntax, notation, axiom, sorry.
-/
import Derived.Test.YthiaaapcbiameaaDoorChecked
import GoSem.Claim
import GoSem.ClaimJoined
import GoSem.ClaimMapViews
import Derived.JoinedTies
import Derived.KernelRfl
namespace Go.Proofs.YthiaaapcbiameaaDoor
/- THE CELL 'sum', in the pinned program and in every row, IS THE sha256 OF THE DUMP (.gsa) THAT YthiaaapcbiameaaDoorProg.lean LOADS. Nothing in Lean hashes anything: it is a label: what it is worth is what the hold of that sum in a sandbox is worth. -/
noncomputable def Tryd.pinned : Pinned := { name := "ythiaaapcbiameaadoor", sum := "0930be8c2c6c9a641495d398cbc69edb40d96e2bc8b8a673d5835beacd2892e7", checked := Tryd.checked }
namespace Rows
def none {H : Type} : Left H := { results := [], args := [] }

/- WHAT THE LISTED PACKAGE-LEVEL VARIABLES READ AS WHEN THE CALL BEGINS. Each datum BY PROGRAM (the guide's laid-datum.mjs) off the statement by which the dump's own 'gosem.cut.vars' lays the variable. In a bare row this is a premise. The card (YthiaaapcbiameaaDoorCards.lean) ties it to the program's text. -/
def laid_betrothal_spin_numbers {H : Type} : DataW H := .agg [.lit (.int .u64 0), .lit (.int .u64 1)]

/-- 'betrothallaw03.SpinPlays': WHATEVER THE INPUT: true; the input reads as it did. -/
def spinPlaysSpec : ChangeSpec := { name := "spinPlays", fn := fun _ => fun
  | [d1, d2] => { results := [.lit (.bool true)], args := [d1, d2] }
  | _ => none }
def spinPlaysRow : OpenClaim := { program := "ythiaaapcbiameaadoor", sum := "0930be8c2c6c9a641495d398cbc69edb40d96e2bc8b8a673d5835beacd2892e7", func := "betrothal/betrothallaw03.SpinPlays", spec := "spinPlays", unfollowed := true, recurses := true, named := ["betrothal/spin.numbers"], apart := false, laid := [("betrothal/spin.numbers", laid_betrothal_spin_numbers)] }
def SpinPlaysSaid : Prop := spinPlaysRow.holds Tryd.pinned (OpenSpec.ofChange spinPlaysSpec)

/-- ITS FALSE NEIGHBOUR: 'it returns false'. Refute it at one input. -/
def spinPlaysWrong : ChangeSpec := { name := "spinPlays", fn := fun _ => fun
  | [d1, d2] => { results := [.lit (.bool false)], args := [d1, d2] }
  | _ => none }
def SpinPlaysWrongFalsely : Prop := spinPlaysRow.holds Tryd.pinned (OpenSpec.ofChange spinPlaysWrong)

/-- 'betrothallaw03.SpinTries': WHATEVER THE INPUT: true; the input reads as it did. -/
def spinTriesSpec : ChangeSpec := { name := "spinTries", fn := fun _ => fun
  | [d1, d2, d3] => { results := [.lit (.bool true)], args := [d1, d2, d3] }
  | _ => none }
def spinTriesRow : OpenClaim := { program := "ythiaaapcbiameaadoor", sum := "0930be8c2c6c9a641495d398cbc69edb40d96e2bc8b8a673d5835beacd2892e7", func := "betrothal/betrothallaw03.SpinTries", spec := "spinTries", unfollowed := true, recurses := true, named := ["betrothal/spin.numbers"], apart := false, laid := [("betrothal/spin.numbers", laid_betrothal_spin_numbers)] }
def SpinTriesSaid : Prop := spinTriesRow.holds Tryd.pinned (OpenSpec.ofChange spinTriesSpec)

/-- ITS FALSE NEIGHBOUR: 'it returns false'. Refute it at one input. -/
def spinTriesWrong : ChangeSpec := { name := "spinTries", fn := fun _ => fun
  | [d1, d2, d3] => { results := [.lit (.bool false)], args := [d1, d2, d3] }
  | _ => none }
def SpinTriesWrongFalsely : Prop := spinTriesRow.holds Tryd.pinned (OpenSpec.ofChange spinTriesWrong)

/-- 'betrothallaw03.SpinNone': WHATEVER THE INPUT: true; the input reads as it did. -/
def spinNoneSpec : ChangeSpec := { name := "spinNone", fn := fun _ => fun
  | [d1, d2, d3] => { results := [.lit (.bool true)], args := [d1, d2, d3] }
  | _ => none }
def spinNoneRow : OpenClaim := { program := "ythiaaapcbiameaadoor", sum := "0930be8c2c6c9a641495d398cbc69edb40d96e2bc8b8a673d5835beacd2892e7", func := "betrothal/betrothallaw03.SpinNone", spec := "spinNone", unfollowed := true, recurses := true, named := ["betrothal/spin.numbers"], apart := false, laid := [("betrothal/spin.numbers", laid_betrothal_spin_numbers)] }
def SpinNoneSaid : Prop := spinNoneRow.holds Tryd.pinned (OpenSpec.ofChange spinNoneSpec)

/-- ITS FALSE NEIGHBOUR: 'it returns false'. Refute it at one input. -/
def spinNoneWrong : ChangeSpec := { name := "spinNone", fn := fun _ => fun
  | [d1, d2, d3] => { results := [.lit (.bool false)], args := [d1, d2, d3] }
  | _ => none }
def SpinNoneWrongFalsely : Prop := spinNoneRow.holds Tryd.pinned (OpenSpec.ofChange spinNoneWrong)

/-- 'betrothallaw03.SpinHolds': WHATEVER THE INPUT: true; the input reads as it did. -/
def spinHoldsSpec : ChangeSpec := { name := "spinHolds", fn := fun _ => fun
  | [d1, d2, d3] => { results := [.lit (.bool true)], args := [d1, d2, d3] }
  | _ => none }
def spinHoldsRow : OpenClaim := { program := "ythiaaapcbiameaadoor", sum := "0930be8c2c6c9a641495d398cbc69edb40d96e2bc8b8a673d5835beacd2892e7", func := "betrothal/betrothallaw03.SpinHolds", spec := "spinHolds", unfollowed := true, recurses := true, named := ["betrothal/spin.numbers"], apart := false, laid := [("betrothal/spin.numbers", laid_betrothal_spin_numbers)] }
def SpinHoldsSaid : Prop := spinHoldsRow.holds Tryd.pinned (OpenSpec.ofChange spinHoldsSpec)

/-- ITS FALSE NEIGHBOUR: 'it returns false'. Refute it at one input. -/
def spinHoldsWrong : ChangeSpec := { name := "spinHolds", fn := fun _ => fun
  | [d1, d2, d3] => { results := [.lit (.bool false)], args := [d1, d2, d3] }
  | _ => none }
def SpinHoldsWrongFalsely : Prop := spinHoldsRow.holds Tryd.pinned (OpenSpec.ofChange spinHoldsWrong)

/- THE SECOND FORM. 'bulk': how many values and letters a reading holds, each counted each time it is reached (what is shared counts as often as it is met; a slice's spare places count too). A statement '..UptoSaid' is the law's where the arguments, and the package variables that the reading takes, are together of bulk at most 1048576: NARROWER than '..Said'. Prove '..Said' where nothing that the law and all that it calls make is longer than what came in: it says more and counts as full. Else prove '..UptoSaid'. A law counts once. -/
mutual
def uptoBulk {H : Type} : DataW H → Nat
  | .lit (.string bytes) => bytes.length + 1
  | .lit _ => 1
  | .nil => 1
  | .ptr d => uptoBulk d + 1
  | .slice elems spare => uptoBulkAll elems + uptoBulkAll spare + 1
  | .agg parts => uptoBulkAll parts + 1
  | .iface _ d => uptoBulk d + 1
  | .map entries => uptoBulkEntries entries + 1
  | .held _ => 1
def uptoBulkAll {H : Type} : List (DataW H) → Nat
  | [] => 0
  | d :: r => uptoBulk d + uptoBulkAll r
def uptoBulkEntries {H : Type} : List (Lit × DataW H) → Nat
  | [] => 0
  | x :: r => uptoBulkEntry x + uptoBulkEntries r
def uptoBulkEntry {H : Type} : Lit × DataW H → Nat
  | (.string bytes, d) => bytes.length + uptoBulk d + 1
  | (_, d) => uptoBulk d + 1
 end
def uptoSmall : (H : Type) → List (DataW H) → Bool := fun _ ds => decide (uptoBulkAll ds ≤ 1048576)
def OpenSpec.upto (s : _root_.Go.ChangeSpec) : _root_.Go.OpenSpec := { _root_.Go.OpenSpec.ofChange s with cond := some uptoSmall }

/-- 'betrothallaw03.SpinPlays', WHERE WHAT IT READS IS OF BULK AT MOST 1048576: true; the input reads as it did. -/
def spinPlaysUptoRow : OpenClaim := { program := "ythiaaapcbiameaadoor", sum := "0930be8c2c6c9a641495d398cbc69edb40d96e2bc8b8a673d5835beacd2892e7", func := "betrothal/betrothallaw03.SpinPlays", spec := "spinPlays", unfollowed := true, recurses := true, named := ["betrothal/spin.numbers"], apart := false, laid := [("betrothal/spin.numbers", laid_betrothal_spin_numbers)], narrowed := true }
def SpinPlaysUptoSaid : Prop := spinPlaysUptoRow.holds Tryd.pinned (OpenSpec.upto spinPlaysSpec)

/-- 'betrothallaw03.SpinTries', WHERE WHAT IT READS IS OF BULK AT MOST 1048576: true; the input reads as it did. -/
def spinTriesUptoRow : OpenClaim := { program := "ythiaaapcbiameaadoor", sum := "0930be8c2c6c9a641495d398cbc69edb40d96e2bc8b8a673d5835beacd2892e7", func := "betrothal/betrothallaw03.SpinTries", spec := "spinTries", unfollowed := true, recurses := true, named := ["betrothal/spin.numbers"], apart := false, laid := [("betrothal/spin.numbers", laid_betrothal_spin_numbers)], narrowed := true }
def SpinTriesUptoSaid : Prop := spinTriesUptoRow.holds Tryd.pinned (OpenSpec.upto spinTriesSpec)

/-- 'betrothallaw03.SpinNone', WHERE WHAT IT READS IS OF BULK AT MOST 1048576: true; the input reads as it did. -/
def spinNoneUptoRow : OpenClaim := { program := "ythiaaapcbiameaadoor", sum := "0930be8c2c6c9a641495d398cbc69edb40d96e2bc8b8a673d5835beacd2892e7", func := "betrothal/betrothallaw03.SpinNone", spec := "spinNone", unfollowed := true, recurses := true, named := ["betrothal/spin.numbers"], apart := false, laid := [("betrothal/spin.numbers", laid_betrothal_spin_numbers)], narrowed := true }
def SpinNoneUptoSaid : Prop := spinNoneUptoRow.holds Tryd.pinned (OpenSpec.upto spinNoneSpec)

/-- 'betrothallaw03.SpinHolds', WHERE WHAT IT READS IS OF BULK AT MOST 1048576: true; the input reads as it did. -/
def spinHoldsUptoRow : OpenClaim := { program := "ythiaaapcbiameaadoor", sum := "0930be8c2c6c9a641495d398cbc69edb40d96e2bc8b8a673d5835beacd2892e7", func := "betrothal/betrothallaw03.SpinHolds", spec := "spinHolds", unfollowed := true, recurses := true, named := ["betrothal/spin.numbers"], apart := false, laid := [("betrothal/spin.numbers", laid_betrothal_spin_numbers)], narrowed := true }
def SpinHoldsUptoSaid : Prop := spinHoldsUptoRow.holds Tryd.pinned (OpenSpec.upto spinHoldsSpec)

end Rows
end Go.Proofs.YthiaaapcbiameaaDoor
