/-
  DERIVED. GIVEN WITH THE SEED: THE CARDS: each row of YthngjbnbloboiaaGreatDoorRows.lean that lists a variable, with what it lists TIED to the program's text (the seventh form; the later family's looks); each row that meets fmt, with fmt's text TOLD by the authors' own Lean function (tested against real Go, not proved from fmt's source: count such statements apart). THE CARD IS WHAT COUNTS. Prove the row's statement (the work); the ties are given (YthngjbnbloboiaaGreatDoorTie.lean); close each card by the builder's one call (the guide's Derived/Test/ToyasCard.lean, 'card_holds'). Laid BY PROGRAM, IN A SANDBOX (cutbox-door.mjs). By AI agents, Wed Nov 11 2026. No macro, syntax, notation, axiom, sorry.
-/
import Derived.Test.YthngjbnbloboiaaGreatDoorRows
import GoSem.ClaimSeven
namespace Go.Proofs.YthngjbnbloboiaaGreatDoor
namespace Rows

/-- THE TIED CARD OF 'curfewlaw11.TableBack'. -/
def tableBackCard : Claim7 := { stood := { row := tableBackRow, standIns := [], harness := (true, "944f312d5c763b949415a2f205965c2485ea940af7cd98129ca7e014bd2d5872"), looks := false }, kinds := [], alts := [], laidByText := true, laidKinds := [.data, .data, .data, .data], laidTests := true, laidLooks := .later }
def TableBackCardSaid : Prop := Claim7.holds Tryz.pinned (.plain (OpenSpec.ofChange tableBackSpec)) tableBackCard

/-- THE TIED CARD OF 'curfewlaw11.TableDues'. -/
def tableDuesCard : Claim7 := { stood := { row := tableDuesRow, standIns := [], harness := (true, "944f312d5c763b949415a2f205965c2485ea940af7cd98129ca7e014bd2d5872"), looks := false }, kinds := [], alts := [], laidByText := true, laidKinds := [.data, .data, .data, .data], laidTests := true, laidLooks := .later }
def TableDuesCardSaid : Prop := Claim7.holds Tryz.pinned (.plain (OpenSpec.ofChange tableDuesSpec)) tableDuesCard

/-- THE SECOND FORM's CARD OF 'curfewlaw11.TableBack'. -/
def tableBackUptoCard : Claim7 := { stood := { row := tableBackUptoRow, standIns := [], harness := (true, "944f312d5c763b949415a2f205965c2485ea940af7cd98129ca7e014bd2d5872"), looks := false }, kinds := [], alts := [], laidByText := true, laidKinds := [.data, .data, .data, .data], laidTests := true, laidLooks := .later }
def TableBackUptoCardSaid : Prop := Claim7.holds Tryz.pinned (.plain (OpenSpec.upto tableBackSpec)) tableBackUptoCard

/-- THE SECOND FORM's CARD OF 'curfewlaw11.TableDues'. -/
def tableDuesUptoCard : Claim7 := { stood := { row := tableDuesUptoRow, standIns := [], harness := (true, "944f312d5c763b949415a2f205965c2485ea940af7cd98129ca7e014bd2d5872"), looks := false }, kinds := [], alts := [], laidByText := true, laidKinds := [.data, .data, .data, .data], laidTests := true, laidLooks := .later }
def TableDuesUptoCardSaid : Prop := Claim7.holds Tryz.pinned (.plain (OpenSpec.upto tableDuesSpec)) tableDuesUptoCard
end Rows
end Go.Proofs.YthngjbnbloboiaaGreatDoor
