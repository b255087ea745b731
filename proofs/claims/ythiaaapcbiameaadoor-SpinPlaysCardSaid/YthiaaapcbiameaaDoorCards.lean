/-
  DERIVED. GIVEN WITH THE SEED: THE CARDS: each row of YthiaaapcbiameaaDoorRows.lean that lists a variable, with what it lists TIED to the program's text (the seventh form; the later family's looks); each row that meets fmt, with fmt's text TOLD by the authors' own Lean function (tested against real Go, not proved from fmt's source: count such statements apart). THE CARD IS WHAT COUNTS. Prove the row's statement (the work); the ties are given (YthiaaapcbiameaaDoorTie.lean); close each card by the builder's one call (the guide's Derived/Test/ToyasCard.lean, 'card_holds'). Laid BY PROGRAM, IN A SANDBOX (cutbox-door.mjs). By AI agents, Wed Nov 11 2026. No macro, syntax, notation, axiom, sorry.
-/
import Derived.Test.YthiaaapcbiameaaDoorRows
import GoSem.ClaimSeven
namespace Go.Proofs.YthiaaapcbiameaaDoor
namespace Rows

/-- THE TIED CARD OF 'betrothallaw03.SpinPlays'. -/
def spinPlaysCard : Claim7 := { stood := { row := spinPlaysRow, standIns := [], harness := (true, "fecd8a15419b077bcffa405663090cfb8dad5008573e6ce5a13ccfd5953f6d84"), looks := false }, kinds := [], alts := [], laidByText := true, laidKinds := [.data], laidTests := true, laidLooks := .later }
def SpinPlaysCardSaid : Prop := Claim7.holds Tryd.pinned (.plain (OpenSpec.ofChange spinPlaysSpec)) spinPlaysCard

/-- THE TIED CARD OF 'betrothallaw03.SpinTries'. -/
def spinTriesCard : Claim7 := { stood := { row := spinTriesRow, standIns := [], harness := (true, "fecd8a15419b077bcffa405663090cfb8dad5008573e6ce5a13ccfd5953f6d84"), looks := false }, kinds := [], alts := [], laidByText := true, laidKinds := [.data], laidTests := true, laidLooks := .later }
def SpinTriesCardSaid : Prop := Claim7.holds Tryd.pinned (.plain (OpenSpec.ofChange spinTriesSpec)) spinTriesCard

/-- THE TIED CARD OF 'betrothallaw03.SpinNone'. -/
def spinNoneCard : Claim7 := { stood := { row := spinNoneRow, standIns := [], harness := (true, "fecd8a15419b077bcffa405663090cfb8dad5008573e6ce5a13ccfd5953f6d84"), looks := false }, kinds := [], alts := [], laidByText := true, laidKinds := [.data], laidTests := true, laidLooks := .later }
def SpinNoneCardSaid : Prop := Claim7.holds Tryd.pinned (.plain (OpenSpec.ofChange spinNoneSpec)) spinNoneCard

/-- THE TIED CARD OF 'betrothallaw03.SpinHolds'. -/
def spinHoldsCard : Claim7 := { stood := { row := spinHoldsRow, standIns := [], harness := (true, "fecd8a15419b077bcffa405663090cfb8dad5008573e6ce5a13ccfd5953f6d84"), looks := false }, kinds := [], alts := [], laidByText := true, laidKinds := [.data], laidTests := true, laidLooks := .later }
def SpinHoldsCardSaid : Prop := Claim7.holds Tryd.pinned (.plain (OpenSpec.ofChange spinHoldsSpec)) spinHoldsCard

/-- THE SECOND FORM's CARD OF 'betrothallaw03.SpinPlays'. -/
def spinPlaysUptoCard : Claim7 := { stood := { row := spinPlaysUptoRow, standIns := [], harness := (true, "fecd8a15419b077bcffa405663090cfb8dad5008573e6ce5a13ccfd5953f6d84"), looks := false }, kinds := [], alts := [], laidByText := true, laidKinds := [.data], laidTests := true, laidLooks := .later }
def SpinPlaysUptoCardSaid : Prop := Claim7.holds Tryd.pinned (.plain (OpenSpec.upto spinPlaysSpec)) spinPlaysUptoCard

/-- THE SECOND FORM's CARD OF 'betrothallaw03.SpinTries'. -/
def spinTriesUptoCard : Claim7 := { stood := { row := spinTriesUptoRow, standIns := [], harness := (true, "fecd8a15419b077bcffa405663090cfb8dad5008573e6ce5a13ccfd5953f6d84"), looks := false }, kinds := [], alts := [], laidByText := true, laidKinds := [.data], laidTests := true, laidLooks := .later }
def SpinTriesUptoCardSaid : Prop := Claim7.holds Tryd.pinned (.plain (OpenSpec.upto spinTriesSpec)) spinTriesUptoCard

/-- THE SECOND FORM's CARD OF 'betrothallaw03.SpinNone'. -/
def spinNoneUptoCard : Claim7 := { stood := { row := spinNoneUptoRow, standIns := [], harness := (true, "fecd8a15419b077bcffa405663090cfb8dad5008573e6ce5a13ccfd5953f6d84"), looks := false }, kinds := [], alts := [], laidByText := true, laidKinds := [.data], laidTests := true, laidLooks := .later }
def SpinNoneUptoCardSaid : Prop := Claim7.holds Tryd.pinned (.plain (OpenSpec.upto spinNoneSpec)) spinNoneUptoCard

/-- THE SECOND FORM's CARD OF 'betrothallaw03.SpinHolds'. -/
def spinHoldsUptoCard : Claim7 := { stood := { row := spinHoldsUptoRow, standIns := [], harness := (true, "fecd8a15419b077bcffa405663090cfb8dad5008573e6ce5a13ccfd5953f6d84"), looks := false }, kinds := [], alts := [], laidByText := true, laidKinds := [.data], laidTests := true, laidLooks := .later }
def SpinHoldsUptoCardSaid : Prop := Claim7.holds Tryd.pinned (.plain (OpenSpec.upto spinHoldsSpec)) spinHoldsUptoCard
end Rows
end Go.Proofs.YthiaaapcbiameaaDoor
