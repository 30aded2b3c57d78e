/-
  DERIVED. GIVEN WITH THE SEED: THE CARDS: each row of YtmjjdccpnepjjaaGreatDoorRows.lean that lists a variable, with what it lists TIED to the program's text (the seventh form; the later family's looks); each row that meets fmt, with fmt's text TOLD by the authors' own Lean function (tested against real Go, not proved from fmt's source: count such statements apart). THE CARD IS WHAT COUNTS. Prove the row's statement (the work); the ties are given (YtmjjdccpnepjjaaGreatDoorTie.lean); close each card by the builder's one call (the guide's Derived/Test/ToyasCard.lean, 'card_holds'). Laid BY PROGRAM, IN A SANDBOX (cutbox-door.mjs). By AI agents, Wed Nov 11 2026. No macro, syntax, notation, axiom, sorry.
-/
import Derived.Test.YtmjjdccpnepjjaaGreatDoorRows
import GoSem.ClaimSeven
namespace Go.Proofs.YtmjjdccpnepjjaaGreatDoor
namespace Rows

/-- THE TIED CARD OF 'curfewlaw07.CronReads'. -/
def cronReadsCard : Claim7 := { stood := { row := cronReadsRow, standIns := [], harness := (true, "846c8373f7f7659d802ca776143306d3434d1e4dacaab62dbc527fa35808105d"), looks := false }, kinds := [], alts := [], laidByText := true, laidKinds := [.data, .data, .data, .data, .data, .data, .data, .data, .data, .pinned], laidTests := true, laidLooks := .later }
def CronReadsCardSaid : Prop := Claim7.holds Tryz.pinned (.plain (OpenSpec.ofChange cronReadsSpec)) cronReadsCard

/-- THE TIED CARD OF 'curfewlaw07.CronTells'. -/
def cronTellsCard : Claim7 := { stood := { row := cronTellsRow, standIns := [], harness := (true, "846c8373f7f7659d802ca776143306d3434d1e4dacaab62dbc527fa35808105d"), looks := false }, kinds := [], alts := [], laidByText := true, laidKinds := [.data, .data, .data, .data, .data, .data, .data, .data, .data, .pinned], laidTests := true, laidLooks := .later }
def CronTellsCardSaid : Prop := Claim7.holds Tryz.pinned (.plain (OpenSpec.ofChange cronTellsSpec)) cronTellsCard

/-- THE TIED CARD OF 'curfewlaw07.CronFits'. -/
def cronFitsCard : Claim7 := { stood := { row := cronFitsRow, standIns := [], harness := (true, "846c8373f7f7659d802ca776143306d3434d1e4dacaab62dbc527fa35808105d"), looks := false }, kinds := [], alts := [], laidByText := true, laidKinds := [.data, .data, .data, .data, .data, .data, .data, .data, .data, .pinned], laidTests := true, laidLooks := .later }
def CronFitsCardSaid : Prop := Claim7.holds Tryz.pinned (.plain (OpenSpec.ofChange cronFitsSpec)) cronFitsCard

/-- THE TIED CARD OF 'curfewlaw07.CronBack'. -/
def cronBackCard : Claim7 := { stood := { row := cronBackRow, standIns := [], harness := (true, "846c8373f7f7659d802ca776143306d3434d1e4dacaab62dbc527fa35808105d"), looks := false }, kinds := [], alts := [], laidByText := true, laidKinds := [.data, .data, .data, .data, .data, .data, .data, .data, .data, .pinned], laidTests := true, laidLooks := .later }
def CronBackCardSaid : Prop := Claim7.holds Tryz.pinned (.plain (OpenSpec.ofChange cronBackSpec)) cronBackCard

/-- THE TIED CARD OF 'curfewlaw07.CronDays'. -/
def cronDaysCard : Claim7 := { stood := { row := cronDaysRow, standIns := [], harness := (true, "846c8373f7f7659d802ca776143306d3434d1e4dacaab62dbc527fa35808105d"), looks := false }, kinds := [], alts := [], laidByText := true, laidKinds := [.data, .data, .data, .data, .data, .data, .data, .data, .data, .pinned], laidTests := true, laidLooks := .later }
def CronDaysCardSaid : Prop := Claim7.holds Tryz.pinned (.plain (OpenSpec.ofChange cronDaysSpec)) cronDaysCard

/-- THE TIED CARD OF 'curfewlaw07.CronMore'. -/
def cronMoreCard : Claim7 := { stood := { row := cronMoreRow, standIns := [], harness := (true, "846c8373f7f7659d802ca776143306d3434d1e4dacaab62dbc527fa35808105d"), looks := false }, kinds := [], alts := [], laidByText := true, laidKinds := [.data, .data, .data, .data, .data, .data, .data, .data, .data, .pinned], laidTests := true, laidLooks := .later }
def CronMoreCardSaid : Prop := Claim7.holds Tryz.pinned (.plain (OpenSpec.ofChange cronMoreSpec)) cronMoreCard

/-- THE SECOND FORM's CARD OF 'curfewlaw07.CronReads'. -/
def cronReadsUptoCard : Claim7 := { stood := { row := cronReadsUptoRow, standIns := [], harness := (true, "846c8373f7f7659d802ca776143306d3434d1e4dacaab62dbc527fa35808105d"), looks := false }, kinds := [], alts := [], laidByText := true, laidKinds := [.data, .data, .data, .data, .data, .data, .data, .data, .data, .pinned], laidTests := true, laidLooks := .later }
def CronReadsUptoCardSaid : Prop := Claim7.holds Tryz.pinned (.plain (OpenSpec.upto cronReadsSpec)) cronReadsUptoCard

/-- THE SECOND FORM's CARD OF 'curfewlaw07.CronTells'. -/
def cronTellsUptoCard : Claim7 := { stood := { row := cronTellsUptoRow, standIns := [], harness := (true, "846c8373f7f7659d802ca776143306d3434d1e4dacaab62dbc527fa35808105d"), looks := false }, kinds := [], alts := [], laidByText := true, laidKinds := [.data, .data, .data, .data, .data, .data, .data, .data, .data, .pinned], laidTests := true, laidLooks := .later }
def CronTellsUptoCardSaid : Prop := Claim7.holds Tryz.pinned (.plain (OpenSpec.upto cronTellsSpec)) cronTellsUptoCard

/-- THE SECOND FORM's CARD OF 'curfewlaw07.CronFits'. -/
def cronFitsUptoCard : Claim7 := { stood := { row := cronFitsUptoRow, standIns := [], harness := (true, "846c8373f7f7659d802ca776143306d3434d1e4dacaab62dbc527fa35808105d"), looks := false }, kinds := [], alts := [], laidByText := true, laidKinds := [.data, .data, .data, .data, .data, .data, .data, .data, .data, .pinned], laidTests := true, laidLooks := .later }
def CronFitsUptoCardSaid : Prop := Claim7.holds Tryz.pinned (.plain (OpenSpec.upto cronFitsSpec)) cronFitsUptoCard

/-- THE SECOND FORM's CARD OF 'curfewlaw07.CronBack'. -/
def cronBackUptoCard : Claim7 := { stood := { row := cronBackUptoRow, standIns := [], harness := (true, "846c8373f7f7659d802ca776143306d3434d1e4dacaab62dbc527fa35808105d"), looks := false }, kinds := [], alts := [], laidByText := true, laidKinds := [.data, .data, .data, .data, .data, .data, .data, .data, .data, .pinned], laidTests := true, laidLooks := .later }
def CronBackUptoCardSaid : Prop := Claim7.holds Tryz.pinned (.plain (OpenSpec.upto cronBackSpec)) cronBackUptoCard

/-- THE SECOND FORM's CARD OF 'curfewlaw07.CronDays'. -/
def cronDaysUptoCard : Claim7 := { stood := { row := cronDaysUptoRow, standIns := [], harness := (true, "846c8373f7f7659d802ca776143306d3434d1e4dacaab62dbc527fa35808105d"), looks := false }, kinds := [], alts := [], laidByText := true, laidKinds := [.data, .data, .data, .data, .data, .data, .data, .data, .data, .pinned], laidTests := true, laidLooks := .later }
def CronDaysUptoCardSaid : Prop := Claim7.holds Tryz.pinned (.plain (OpenSpec.upto cronDaysSpec)) cronDaysUptoCard

/-- THE SECOND FORM's CARD OF 'curfewlaw07.CronMore'. -/
def cronMoreUptoCard : Claim7 := { stood := { row := cronMoreUptoRow, standIns := [], harness := (true, "846c8373f7f7659d802ca776143306d3434d1e4dacaab62dbc527fa35808105d"), looks := false }, kinds := [], alts := [], laidByText := true, laidKinds := [.data, .data, .data, .data, .data, .data, .data, .data, .data, .pinned], laidTests := true, laidLooks := .later }
def CronMoreUptoCardSaid : Prop := Claim7.holds Tryz.pinned (.plain (OpenSpec.upto cronMoreSpec)) cronMoreUptoCard
end Rows
end Go.Proofs.YtmjjdccpnepjjaaGreatDoor
