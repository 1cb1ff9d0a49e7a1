/-
  DERIVED. GIVEN WITH THE SEED: THE CARDS: each row of YtmmkhodaljpjgaaGreatDoorRows.lean that lists a variable, with what it lists TIED to the program's text (the seventh form; the later family's looks); each row that meets fmt, with fmt's text TOLD by the authors' own Lean function (tested against real Go, not proved from fmt's source: count such statements apart). THE CARD IS WHAT COUNTS. Prove the row's statement (the work); the ties are given (YtmmkhodaljpjgaaGreatDoorTie.lean); close each card by the builder's one call (the guide's Derived/Test/ToyasCard.lean, 'card_holds'). Laid BY PROGRAM, IN A SANDBOX (cutbox-door.mjs). By AI agents, Wed Nov 11 2026. No macro, syntax, notation, axiom, sorry.
-/
import Derived.Test.YtmmkhodaljpjgaaGreatDoorRows
import GoSem.ClaimSeven
namespace Go.Proofs.YtmmkhodaljpjgaaGreatDoor
namespace Rows

/-- THE TIED CARD OF 'smearlaw.Dates'. -/
def datesCard : Claim7 := { stood := { row := datesRow, standIns := [], harness := (true, "0b9efe6f37d93737fb1adf53b93d86026fc6ce6e88177c1bf019427907a33424"), looks := false }, kinds := [], alts := [], laidByText := true, laidKinds := [.data, .data, .data, .data], laidTests := true, laidLooks := .later }
def DatesCardSaid : Prop := Claim7.holds Tryz.pinned (.plain (OpenSpec.ofChange datesSpec)) datesCard

/-- THE TIED CARD OF 'smearlaw.Digests'. -/
def digestsCard : Claim7 := { stood := { row := digestsRow, standIns := [], harness := (true, "0b9efe6f37d93737fb1adf53b93d86026fc6ce6e88177c1bf019427907a33424"), looks := false }, kinds := [], alts := [], laidByText := true, laidKinds := [.data, .data, .data, .data], laidTests := true, laidLooks := .later }
def DigestsCardSaid : Prop := Claim7.holds Tryz.pinned (.plain (OpenSpec.ofChange digestsSpec)) digestsCard

/-- THE TIED CARD OF 'smearlaw.Files'. -/
def filesCard : Claim7 := { stood := { row := filesRow, standIns := [], harness := (true, "0b9efe6f37d93737fb1adf53b93d86026fc6ce6e88177c1bf019427907a33424"), looks := false }, kinds := [], alts := [], laidByText := true, laidKinds := [.data, .data, .data, .data], laidTests := true, laidLooks := .later }
def FilesCardSaid : Prop := Claim7.holds Tryz.pinned (.plain (OpenSpec.ofChange filesSpec)) filesCard

/-- THE TIED CARD OF 'smearlaw.Labels'. -/
def labelsCard : Claim7 := { stood := { row := labelsRow, standIns := [], harness := (true, "0b9efe6f37d93737fb1adf53b93d86026fc6ce6e88177c1bf019427907a33424"), looks := false }, kinds := [], alts := [], laidByText := true, laidKinds := [.data, .data, .data, .data], laidTests := true, laidLooks := .later }
def LabelsCardSaid : Prop := Claim7.holds Tryz.pinned (.plain (OpenSpec.ofChange labelsSpec)) labelsCard

/-- THE TIED CARD OF 'smearlaw.Steps'. -/
def stepsCard : Claim7 := { stood := { row := stepsRow, standIns := [], harness := (true, "0b9efe6f37d93737fb1adf53b93d86026fc6ce6e88177c1bf019427907a33424"), looks := false }, kinds := [], alts := [], laidByText := true, laidKinds := [.data, .data, .data, .data], laidTests := true, laidLooks := .later }
def StepsCardSaid : Prop := Claim7.holds Tryz.pinned (.plain (OpenSpec.ofChange stepsSpec)) stepsCard

/-- THE TIED CARD OF 'smearlaw.Smears'. -/
def smearsCard : Claim7 := { stood := { row := smearsRow, standIns := [], harness := (true, "0b9efe6f37d93737fb1adf53b93d86026fc6ce6e88177c1bf019427907a33424"), looks := false }, kinds := [], alts := [], laidByText := true, laidKinds := [.data, .data, .data, .data], laidTests := true, laidLooks := .later }
def SmearsCardSaid : Prop := Claim7.holds Tryz.pinned (.plain (OpenSpec.ofChange smearsSpec)) smearsCard

/-- THE TIED CARD OF 'smearlaw.Votes'. -/
def votesCard : Claim7 := { stood := { row := votesRow, standIns := [], harness := (true, "0b9efe6f37d93737fb1adf53b93d86026fc6ce6e88177c1bf019427907a33424"), looks := false }, kinds := [], alts := [], laidByText := true, laidKinds := [.data, .data, .data, .data], laidTests := true, laidLooks := .later }
def VotesCardSaid : Prop := Claim7.holds Tryz.pinned (.plain (OpenSpec.ofChange votesSpec)) votesCard

/-- THE TIED CARD OF 'smearlaw.Answers'. -/
def answersCard : Claim7 := { stood := { row := answersRow, standIns := [], harness := (true, "0b9efe6f37d93737fb1adf53b93d86026fc6ce6e88177c1bf019427907a33424"), looks := false }, kinds := [], alts := [], laidByText := true, laidKinds := [.data, .data, .data, .data], laidTests := true, laidLooks := .later }
def AnswersCardSaid : Prop := Claim7.holds Tryz.pinned (.plain (OpenSpec.ofChange answersSpec)) answersCard

/-- THE TIED CARD OF 'smearlaw.All'. -/
def allCard : Claim7 := { stood := { row := allRow, standIns := [], harness := (true, "0b9efe6f37d93737fb1adf53b93d86026fc6ce6e88177c1bf019427907a33424"), looks := false }, kinds := [], alts := [], laidByText := true, laidKinds := [.data, .data, .data, .data], laidTests := true, laidLooks := .later }
def AllCardSaid : Prop := Claim7.holds Tryz.pinned (.plain (OpenSpec.ofChange allSpec)) allCard

/-- THE SECOND FORM's CARD OF 'smearlaw.Dates'. -/
def datesUptoCard : Claim7 := { stood := { row := datesUptoRow, standIns := [], harness := (true, "0b9efe6f37d93737fb1adf53b93d86026fc6ce6e88177c1bf019427907a33424"), looks := false }, kinds := [], alts := [], laidByText := true, laidKinds := [.data, .data, .data, .data], laidTests := true, laidLooks := .later }
def DatesUptoCardSaid : Prop := Claim7.holds Tryz.pinned (.plain (OpenSpec.upto datesSpec)) datesUptoCard

/-- THE SECOND FORM's CARD OF 'smearlaw.Digests'. -/
def digestsUptoCard : Claim7 := { stood := { row := digestsUptoRow, standIns := [], harness := (true, "0b9efe6f37d93737fb1adf53b93d86026fc6ce6e88177c1bf019427907a33424"), looks := false }, kinds := [], alts := [], laidByText := true, laidKinds := [.data, .data, .data, .data], laidTests := true, laidLooks := .later }
def DigestsUptoCardSaid : Prop := Claim7.holds Tryz.pinned (.plain (OpenSpec.upto digestsSpec)) digestsUptoCard

/-- THE SECOND FORM's CARD OF 'smearlaw.Files'. -/
def filesUptoCard : Claim7 := { stood := { row := filesUptoRow, standIns := [], harness := (true, "0b9efe6f37d93737fb1adf53b93d86026fc6ce6e88177c1bf019427907a33424"), looks := false }, kinds := [], alts := [], laidByText := true, laidKinds := [.data, .data, .data, .data], laidTests := true, laidLooks := .later }
def FilesUptoCardSaid : Prop := Claim7.holds Tryz.pinned (.plain (OpenSpec.upto filesSpec)) filesUptoCard

/-- THE SECOND FORM's CARD OF 'smearlaw.Labels'. -/
def labelsUptoCard : Claim7 := { stood := { row := labelsUptoRow, standIns := [], harness := (true, "0b9efe6f37d93737fb1adf53b93d86026fc6ce6e88177c1bf019427907a33424"), looks := false }, kinds := [], alts := [], laidByText := true, laidKinds := [.data, .data, .data, .data], laidTests := true, laidLooks := .later }
def LabelsUptoCardSaid : Prop := Claim7.holds Tryz.pinned (.plain (OpenSpec.upto labelsSpec)) labelsUptoCard

/-- THE SECOND FORM's CARD OF 'smearlaw.Steps'. -/
def stepsUptoCard : Claim7 := { stood := { row := stepsUptoRow, standIns := [], harness := (true, "0b9efe6f37d93737fb1adf53b93d86026fc6ce6e88177c1bf019427907a33424"), looks := false }, kinds := [], alts := [], laidByText := true, laidKinds := [.data, .data, .data, .data], laidTests := true, laidLooks := .later }
def StepsUptoCardSaid : Prop := Claim7.holds Tryz.pinned (.plain (OpenSpec.upto stepsSpec)) stepsUptoCard

/-- THE SECOND FORM's CARD OF 'smearlaw.Smears'. -/
def smearsUptoCard : Claim7 := { stood := { row := smearsUptoRow, standIns := [], harness := (true, "0b9efe6f37d93737fb1adf53b93d86026fc6ce6e88177c1bf019427907a33424"), looks := false }, kinds := [], alts := [], laidByText := true, laidKinds := [.data, .data, .data, .data], laidTests := true, laidLooks := .later }
def SmearsUptoCardSaid : Prop := Claim7.holds Tryz.pinned (.plain (OpenSpec.upto smearsSpec)) smearsUptoCard

/-- THE SECOND FORM's CARD OF 'smearlaw.Votes'. -/
def votesUptoCard : Claim7 := { stood := { row := votesUptoRow, standIns := [], harness := (true, "0b9efe6f37d93737fb1adf53b93d86026fc6ce6e88177c1bf019427907a33424"), looks := false }, kinds := [], alts := [], laidByText := true, laidKinds := [.data, .data, .data, .data], laidTests := true, laidLooks := .later }
def VotesUptoCardSaid : Prop := Claim7.holds Tryz.pinned (.plain (OpenSpec.upto votesSpec)) votesUptoCard

/-- THE SECOND FORM's CARD OF 'smearlaw.Answers'. -/
def answersUptoCard : Claim7 := { stood := { row := answersUptoRow, standIns := [], harness := (true, "0b9efe6f37d93737fb1adf53b93d86026fc6ce6e88177c1bf019427907a33424"), looks := false }, kinds := [], alts := [], laidByText := true, laidKinds := [.data, .data, .data, .data], laidTests := true, laidLooks := .later }
def AnswersUptoCardSaid : Prop := Claim7.holds Tryz.pinned (.plain (OpenSpec.upto answersSpec)) answersUptoCard

/-- THE SECOND FORM's CARD OF 'smearlaw.All'. -/
def allUptoCard : Claim7 := { stood := { row := allUptoRow, standIns := [], harness := (true, "0b9efe6f37d93737fb1adf53b93d86026fc6ce6e88177c1bf019427907a33424"), looks := false }, kinds := [], alts := [], laidByText := true, laidKinds := [.data, .data, .data, .data], laidTests := true, laidLooks := .later }
def AllUptoCardSaid : Prop := Claim7.holds Tryz.pinned (.plain (OpenSpec.upto allSpec)) allUptoCard
end Rows
end Go.Proofs.YtmmkhodaljpjgaaGreatDoor
