/-
  DERIVED. GIVEN WITH THE SEED: THE CARDS: each row of YthghcffibljclaaDoorRows.lean that lists a variable, with what it lists TIED to the program's text (the seventh form; the later family's looks); each row that meets fmt, with fmt's text TOLD by the authors' own Lean function (tested against real Go, not proved from fmt's source: count such statements apart). THE CARD IS WHAT COUNTS. Prove the row's statement (the work); the ties are given (YthghcffibljclaaDoorTie.lean); close each card by the builder's one call (the guide's Derived/Test/ToyasCard.lean, 'card_holds'). Laid BY PROGRAM, IN A SANDBOX (cutbox-door.mjs). By AI agents, Wed Nov 11 2026. No macro, syntax, notation, axiom, sorry.
-/
import Derived.Test.YthghcffibljclaaDoorRows
import GoSem.ClaimSeven
namespace Go.Proofs.YthghcffibljclaaDoor
namespace Rows

/-- THE TIED CARD OF 'curfewlaw13.DueRises'. -/
def dueRisesCard : Claim7 := { stood := { row := dueRisesRow, standIns := [], harness := (true, "dd5bcb089911046a81c87d03422af66a3e740592d28d00333ae1d749f61941a2"), looks := false }, kinds := [], alts := [], laidByText := true, laidKinds := [.data, .data, .data, .data], laidTests := true, laidLooks := .later }
def DueRisesCardSaid : Prop := Claim7.holds Tryd.pinned (.plain (OpenSpec.ofChange dueRisesSpec)) dueRisesCard

/-- THE TIED CARD OF 'curfewlaw13.DueAll'. -/
def dueAllCard : Claim7 := { stood := { row := dueAllRow, standIns := [], harness := (true, "dd5bcb089911046a81c87d03422af66a3e740592d28d00333ae1d749f61941a2"), looks := false }, kinds := [], alts := [], laidByText := true, laidKinds := [.data, .data, .data, .data], laidTests := true, laidLooks := .later }
def DueAllCardSaid : Prop := Claim7.holds Tryd.pinned (.plain (OpenSpec.ofChange dueAllSpec)) dueAllCard

/-- THE TIED CARD OF 'curfewlaw13.DueCatch'. -/
def dueCatchCard : Claim7 := { stood := { row := dueCatchRow, standIns := [], harness := (true, "dd5bcb089911046a81c87d03422af66a3e740592d28d00333ae1d749f61941a2"), looks := false }, kinds := [], alts := [], laidByText := true, laidKinds := [.data, .data, .data, .data], laidTests := true, laidLooks := .later }
def DueCatchCardSaid : Prop := Claim7.holds Tryd.pinned (.plain (OpenSpec.ofChange dueCatchSpec)) dueCatchCard

/-- THE SECOND FORM's CARD OF 'curfewlaw13.DueRises'. -/
def dueRisesUptoCard : Claim7 := { stood := { row := dueRisesUptoRow, standIns := [], harness := (true, "dd5bcb089911046a81c87d03422af66a3e740592d28d00333ae1d749f61941a2"), looks := false }, kinds := [], alts := [], laidByText := true, laidKinds := [.data, .data, .data, .data], laidTests := true, laidLooks := .later }
def DueRisesUptoCardSaid : Prop := Claim7.holds Tryd.pinned (.plain (OpenSpec.upto dueRisesSpec)) dueRisesUptoCard

/-- THE SECOND FORM's CARD OF 'curfewlaw13.DueAll'. -/
def dueAllUptoCard : Claim7 := { stood := { row := dueAllUptoRow, standIns := [], harness := (true, "dd5bcb089911046a81c87d03422af66a3e740592d28d00333ae1d749f61941a2"), looks := false }, kinds := [], alts := [], laidByText := true, laidKinds := [.data, .data, .data, .data], laidTests := true, laidLooks := .later }
def DueAllUptoCardSaid : Prop := Claim7.holds Tryd.pinned (.plain (OpenSpec.upto dueAllSpec)) dueAllUptoCard

/-- THE SECOND FORM's CARD OF 'curfewlaw13.DueCatch'. -/
def dueCatchUptoCard : Claim7 := { stood := { row := dueCatchUptoRow, standIns := [], harness := (true, "dd5bcb089911046a81c87d03422af66a3e740592d28d00333ae1d749f61941a2"), looks := false }, kinds := [], alts := [], laidByText := true, laidKinds := [.data, .data, .data, .data], laidTests := true, laidLooks := .later }
def DueCatchUptoCardSaid : Prop := Claim7.holds Tryd.pinned (.plain (OpenSpec.upto dueCatchSpec)) dueCatchUptoCard
end Rows
end Go.Proofs.YthghcffibljclaaDoor
