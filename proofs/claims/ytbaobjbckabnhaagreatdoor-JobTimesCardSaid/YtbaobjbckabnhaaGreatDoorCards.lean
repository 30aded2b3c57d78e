/-
  DERIVED. GIVEN WITH THE SEED: THE CARDS: each row of YtbaobjbckabnhaaGreatDoorRows.lean that lists a variable, with what it lists TIED to the program's text (the seventh form; the later family's looks); each row that meets fmt, with fmt's text TOLD by the authors' own Lean function (tested against real Go, not proved from fmt's source: count such statements apart). THE CARD IS WHAT COUNTS. Prove the row's statement (the work); the ties are given (YtbaobjbckabnhaaGreatDoorTie.lean); close each card by the builder's one call (the guide's Derived/Test/ToyasCard.lean, 'card_holds'). Laid BY PROGRAM, IN A SANDBOX (cutbox-door.mjs). By AI agents, Wed Nov 11 2026. No macro, syntax, notation, axiom, sorry.
-/
import Derived.Test.YtbaobjbckabnhaaGreatDoorRows
import GoSem.ClaimSeven
namespace Go.Proofs.YtbaobjbckabnhaaGreatDoor
namespace Rows

/-- THE TIED CARD OF 'curfewlaw10.JobSays'. -/
def jobSaysCard : Claim7 := { stood := { row := jobSaysRow, standIns := [], harness := (true, "abec13f295189b094facb2e30291b1e783861c83b75f584a78927f0225bc290d"), looks := false }, kinds := [], alts := [], laidByText := true, laidKinds := [.data, .data, .data, .data, .data, .data, .data, .pinned], laidTests := true, laidLooks := .later }
def JobSaysCardSaid : Prop := Claim7.holds Tryz.pinned (.plain (OpenSpec.ofChange jobSaysSpec)) jobSaysCard

/-- THE TIED CARD OF 'curfewlaw10.JobTimes'. -/
def jobTimesCard : Claim7 := { stood := { row := jobTimesRow, standIns := [], harness := (true, "abec13f295189b094facb2e30291b1e783861c83b75f584a78927f0225bc290d"), looks := false }, kinds := [], alts := [], laidByText := true, laidKinds := [.data, .data, .data, .data, .data, .data, .data, .pinned], laidTests := true, laidLooks := .later }
def JobTimesCardSaid : Prop := Claim7.holds Tryz.pinned (.plain (OpenSpec.ofChange jobTimesSpec)) jobTimesCard

/-- THE TIED CARD OF 'curfewlaw10.JobBack'. -/
def jobBackCard : Claim7 := { stood := { row := jobBackRow, standIns := [], harness := (true, "abec13f295189b094facb2e30291b1e783861c83b75f584a78927f0225bc290d"), looks := false }, kinds := [], alts := [], laidByText := true, laidKinds := [.data, .data, .data, .data, .data, .data, .data, .data, .data, .pinned], laidTests := true, laidLooks := .later }
def JobBackCardSaid : Prop := Claim7.holds Tryz.pinned (.plain (OpenSpec.ofChange jobBackSpec)) jobBackCard

/-- THE TIED CARD OF 'curfewlaw10.JobEnds'. -/
def jobEndsCard : Claim7 := { stood := { row := jobEndsRow, standIns := [], harness := (true, "abec13f295189b094facb2e30291b1e783861c83b75f584a78927f0225bc290d"), looks := false }, kinds := [], alts := [], laidByText := true, laidKinds := [.data, .data, .data, .data, .data, .data, .data, .pinned], laidTests := true, laidLooks := .later }
def JobEndsCardSaid : Prop := Claim7.holds Tryz.pinned (.plain (OpenSpec.ofChange jobEndsSpec)) jobEndsCard

/-- THE TIED CARD OF 'curfewlaw10.JobCron'. -/
def jobCronCard : Claim7 := { stood := { row := jobCronRow, standIns := [], harness := (true, "abec13f295189b094facb2e30291b1e783861c83b75f584a78927f0225bc290d"), looks := false }, kinds := [], alts := [], laidByText := true, laidKinds := [.data, .data, .data, .data, .data, .data, .data, .pinned], laidTests := true, laidLooks := .later }
def JobCronCardSaid : Prop := Claim7.holds Tryz.pinned (.plain (OpenSpec.ofChange jobCronSpec)) jobCronCard

/-- THE SECOND FORM's CARD OF 'curfewlaw10.JobSays'. -/
def jobSaysUptoCard : Claim7 := { stood := { row := jobSaysUptoRow, standIns := [], harness := (true, "abec13f295189b094facb2e30291b1e783861c83b75f584a78927f0225bc290d"), looks := false }, kinds := [], alts := [], laidByText := true, laidKinds := [.data, .data, .data, .data, .data, .data, .data, .pinned], laidTests := true, laidLooks := .later }
def JobSaysUptoCardSaid : Prop := Claim7.holds Tryz.pinned (.plain (OpenSpec.upto jobSaysSpec)) jobSaysUptoCard

/-- THE SECOND FORM's CARD OF 'curfewlaw10.JobTimes'. -/
def jobTimesUptoCard : Claim7 := { stood := { row := jobTimesUptoRow, standIns := [], harness := (true, "abec13f295189b094facb2e30291b1e783861c83b75f584a78927f0225bc290d"), looks := false }, kinds := [], alts := [], laidByText := true, laidKinds := [.data, .data, .data, .data, .data, .data, .data, .pinned], laidTests := true, laidLooks := .later }
def JobTimesUptoCardSaid : Prop := Claim7.holds Tryz.pinned (.plain (OpenSpec.upto jobTimesSpec)) jobTimesUptoCard

/-- THE SECOND FORM's CARD OF 'curfewlaw10.JobBack'. -/
def jobBackUptoCard : Claim7 := { stood := { row := jobBackUptoRow, standIns := [], harness := (true, "abec13f295189b094facb2e30291b1e783861c83b75f584a78927f0225bc290d"), looks := false }, kinds := [], alts := [], laidByText := true, laidKinds := [.data, .data, .data, .data, .data, .data, .data, .data, .data, .pinned], laidTests := true, laidLooks := .later }
def JobBackUptoCardSaid : Prop := Claim7.holds Tryz.pinned (.plain (OpenSpec.upto jobBackSpec)) jobBackUptoCard

/-- THE SECOND FORM's CARD OF 'curfewlaw10.JobEnds'. -/
def jobEndsUptoCard : Claim7 := { stood := { row := jobEndsUptoRow, standIns := [], harness := (true, "abec13f295189b094facb2e30291b1e783861c83b75f584a78927f0225bc290d"), looks := false }, kinds := [], alts := [], laidByText := true, laidKinds := [.data, .data, .data, .data, .data, .data, .data, .pinned], laidTests := true, laidLooks := .later }
def JobEndsUptoCardSaid : Prop := Claim7.holds Tryz.pinned (.plain (OpenSpec.upto jobEndsSpec)) jobEndsUptoCard

/-- THE SECOND FORM's CARD OF 'curfewlaw10.JobCron'. -/
def jobCronUptoCard : Claim7 := { stood := { row := jobCronUptoRow, standIns := [], harness := (true, "abec13f295189b094facb2e30291b1e783861c83b75f584a78927f0225bc290d"), looks := false }, kinds := [], alts := [], laidByText := true, laidKinds := [.data, .data, .data, .data, .data, .data, .data, .pinned], laidTests := true, laidLooks := .later }
def JobCronUptoCardSaid : Prop := Claim7.holds Tryz.pinned (.plain (OpenSpec.upto jobCronSpec)) jobCronUptoCard
end Rows
end Go.Proofs.YtbaobjbckabnhaaGreatDoor
