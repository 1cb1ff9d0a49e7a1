/-
  DERIVED. GIVEN WITH THE SEED: THE CARDS: each row of YtmmkhodaljpjgabGreatDoorRows.lean that lists a variable, with what it lists TIED to the program's text (the seventh form; the later family's looks); each row that meets fmt, with fmt's text TOLD by the authors' own Lean function (tested against real Go, not proved from fmt's source: count such statements apart). THE CARD IS WHAT COUNTS. Prove the row's statement (the work); the ties are given (YtmmkhodaljpjgabGreatDoorTie.lean); close each card by the builder's one call (the guide's Derived/Test/ToyasCard.lean, 'card_holds'). Laid BY PROGRAM, IN A SANDBOX (cutbox-door.mjs). By AI agents, Wed Nov 11 2026. No macro, syntax, notation, axiom, sorry.
-/
import Derived.Test.YtmmkhodaljpjgabGreatDoorRows
import GoSem.ClaimSeven
namespace Go.Proofs.YtmmkhodaljpjgabGreatDoor
namespace Rows

/-- THE TIED CARD OF 'smearkeep.Rate'. -/
def rateCard : Claim7 := { stood := { row := rateRow, standIns := [], harness := (true, "317014489102c427a9f55007e29b383057ab29568c6875747012880922b4a91c"), looks := false }, kinds := [], alts := [], laidByText := true, laidKinds := [.data, .data, .data, .data], laidTests := true, laidLooks := .later }
def RateCardSaid : Prop := Claim7.holds Tryz.pinned (.plain (OpenSpec.ofChange rateSpec)) rateCard

/-- THE TIED CARD OF 'smearkeep.Near'. -/
def nearCard : Claim7 := { stood := { row := nearRow, standIns := [], harness := (true, "317014489102c427a9f55007e29b383057ab29568c6875747012880922b4a91c"), looks := false }, kinds := [], alts := [], laidByText := true, laidKinds := [.data, .data, .data, .data], laidTests := true, laidLooks := .later }
def NearCardSaid : Prop := Claim7.holds Tryz.pinned (.plain (OpenSpec.ofChange nearSpec)) nearCard

/-- THE TIED CARD OF 'smearkeep.Quiet'. -/
def quietCard : Claim7 := { stood := { row := quietRow, standIns := [], harness := (true, "317014489102c427a9f55007e29b383057ab29568c6875747012880922b4a91c"), looks := false }, kinds := [], alts := [], laidByText := true, laidKinds := [.data, .data, .data, .data], laidTests := true, laidLooks := .later }
def QuietCardSaid : Prop := Claim7.holds Tryz.pinned (.plain (OpenSpec.ofChange quietSpec)) quietCard

/-- THE TIED CARD OF 'smearkeep.Kept'. -/
def keptCard : Claim7 := { stood := { row := keptRow, standIns := [], harness := (true, "317014489102c427a9f55007e29b383057ab29568c6875747012880922b4a91c"), looks := false }, kinds := [], alts := [], laidByText := true, laidKinds := [.data, .data, .data, .data], laidTests := true, laidLooks := .later }
def KeptCardSaid : Prop := Claim7.holds Tryz.pinned (.plain (OpenSpec.ofChange keptSpec)) keptCard

/-- THE TIED CARD OF 'smearkeep.Stamped'. -/
def stampedCard : Claim7 := { stood := { row := stampedRow, standIns := [], harness := (true, "317014489102c427a9f55007e29b383057ab29568c6875747012880922b4a91c"), looks := false }, kinds := [], alts := [], laidByText := true, laidKinds := [.data, .data, .data, .data], laidTests := true, laidLooks := .later }
def StampedCardSaid : Prop := Claim7.holds Tryz.pinned (.plain (OpenSpec.ofChange stampedSpec)) stampedCard

/-- THE SECOND FORM's CARD OF 'smearkeep.Rate'. -/
def rateUptoCard : Claim7 := { stood := { row := rateUptoRow, standIns := [], harness := (true, "317014489102c427a9f55007e29b383057ab29568c6875747012880922b4a91c"), looks := false }, kinds := [], alts := [], laidByText := true, laidKinds := [.data, .data, .data, .data], laidTests := true, laidLooks := .later }
def RateUptoCardSaid : Prop := Claim7.holds Tryz.pinned (.plain (OpenSpec.upto rateSpec)) rateUptoCard

/-- THE SECOND FORM's CARD OF 'smearkeep.Near'. -/
def nearUptoCard : Claim7 := { stood := { row := nearUptoRow, standIns := [], harness := (true, "317014489102c427a9f55007e29b383057ab29568c6875747012880922b4a91c"), looks := false }, kinds := [], alts := [], laidByText := true, laidKinds := [.data, .data, .data, .data], laidTests := true, laidLooks := .later }
def NearUptoCardSaid : Prop := Claim7.holds Tryz.pinned (.plain (OpenSpec.upto nearSpec)) nearUptoCard

/-- THE SECOND FORM's CARD OF 'smearkeep.Quiet'. -/
def quietUptoCard : Claim7 := { stood := { row := quietUptoRow, standIns := [], harness := (true, "317014489102c427a9f55007e29b383057ab29568c6875747012880922b4a91c"), looks := false }, kinds := [], alts := [], laidByText := true, laidKinds := [.data, .data, .data, .data], laidTests := true, laidLooks := .later }
def QuietUptoCardSaid : Prop := Claim7.holds Tryz.pinned (.plain (OpenSpec.upto quietSpec)) quietUptoCard

/-- THE SECOND FORM's CARD OF 'smearkeep.Kept'. -/
def keptUptoCard : Claim7 := { stood := { row := keptUptoRow, standIns := [], harness := (true, "317014489102c427a9f55007e29b383057ab29568c6875747012880922b4a91c"), looks := false }, kinds := [], alts := [], laidByText := true, laidKinds := [.data, .data, .data, .data], laidTests := true, laidLooks := .later }
def KeptUptoCardSaid : Prop := Claim7.holds Tryz.pinned (.plain (OpenSpec.upto keptSpec)) keptUptoCard

/-- THE SECOND FORM's CARD OF 'smearkeep.Stamped'. -/
def stampedUptoCard : Claim7 := { stood := { row := stampedUptoRow, standIns := [], harness := (true, "317014489102c427a9f55007e29b383057ab29568c6875747012880922b4a91c"), looks := false }, kinds := [], alts := [], laidByText := true, laidKinds := [.data, .data, .data, .data], laidTests := true, laidLooks := .later }
def StampedUptoCardSaid : Prop := Claim7.holds Tryz.pinned (.plain (OpenSpec.upto stampedSpec)) stampedUptoCard
end Rows
end Go.Proofs.YtmmkhodaljpjgabGreatDoor
