/-
  DERIVED. GIVEN WITH THE SEED: THE CARDS: each row of YtlenidhjjganeaaDoorRows.lean that lists a variable, with what it lists TIED to the program's text (the seventh form; the later family's looks); each row that meets fmt, with fmt's text TOLD by the authors' own Lean function (tested against real Go, not proved from fmt's source: count such statements apart). THE CARD IS WHAT COUNTS. Prove the row's statement (the work); the ties are given (YtlenidhjjganeaaDoorTie.lean); close each card by the builder's one call (the guide's Derived/Test/ToyasCard.lean, 'card_holds'). Laid BY PROGRAM, IN A SANDBOX (cutbox-door.mjs). By AI agents, Wed Nov 11 2026. No macro, syntax, notation, axiom, sorry.
-/
import Derived.Test.YtlenidhjjganeaaDoorRows
import GoSem.ClaimSeven
namespace Go.Proofs.YtlenidhjjganeaaDoor
namespace Rows

/-- THE TIED CARD OF 'hotspotlaw09.RateNames'. -/
def rateNamesCard : Claim7 := { stood := { row := rateNamesRow, standIns := [], harness := (true, "7a9083c409d6a32e7f683ed9e93fab38d2a1ceeb7a1125f270ec8369010ca07d"), looks := false }, kinds := [], alts := [], laidByText := true, laidKinds := [.data], laidTests := true, laidLooks := .later }
def RateNamesCardSaid : Prop := Claim7.holds Tryd.pinned (.plain (OpenSpec.ofChange rateNamesSpec)) rateNamesCard

/-- THE TIED CARD OF 'hotspotlaw09.RateTable'. -/
def rateTableCard : Claim7 := { stood := { row := rateTableRow, standIns := [], harness := (true, "7a9083c409d6a32e7f683ed9e93fab38d2a1ceeb7a1125f270ec8369010ca07d"), looks := false }, kinds := [], alts := [], laidByText := true, laidKinds := [.data], laidTests := true, laidLooks := .later }
def RateTableCardSaid : Prop := Claim7.holds Tryd.pinned (.plain (OpenSpec.ofChange rateTableSpec)) rateTableCard

/-- THE TIED CARD OF 'hotspotlaw09.RateTimes'. -/
def rateTimesCard : Claim7 := { stood := { row := rateTimesRow, standIns := [], harness := (true, "7a9083c409d6a32e7f683ed9e93fab38d2a1ceeb7a1125f270ec8369010ca07d"), looks := false }, kinds := [], alts := [], laidByText := true, laidKinds := [.data], laidTests := true, laidLooks := .later }
def RateTimesCardSaid : Prop := Claim7.holds Tryd.pinned (.plain (OpenSpec.ofChange rateTimesSpec)) rateTimesCard

/-- THE TIED CARD OF 'hotspotlaw09.RateMonotone'. -/
def rateMonotoneCard : Claim7 := { stood := { row := rateMonotoneRow, standIns := [], harness := (true, "7a9083c409d6a32e7f683ed9e93fab38d2a1ceeb7a1125f270ec8369010ca07d"), looks := false }, kinds := [], alts := [], laidByText := true, laidKinds := [.data], laidTests := true, laidLooks := .later }
def RateMonotoneCardSaid : Prop := Claim7.holds Tryd.pinned (.plain (OpenSpec.ofChange rateMonotoneSpec)) rateMonotoneCard

/-- THE TIED CARD OF 'hotspotlaw09.RateFits'. -/
def rateFitsCard : Claim7 := { stood := { row := rateFitsRow, standIns := [], harness := (true, "7a9083c409d6a32e7f683ed9e93fab38d2a1ceeb7a1125f270ec8369010ca07d"), looks := false }, kinds := [], alts := [], laidByText := true, laidKinds := [.data], laidTests := true, laidLooks := .later }
def RateFitsCardSaid : Prop := Claim7.holds Tryd.pinned (.plain (OpenSpec.ofChange rateFitsSpec)) rateFitsCard

/-- THE TIED CARD OF 'hotspotlaw09.RateLevels'. -/
def rateLevelsCard : Claim7 := { stood := { row := rateLevelsRow, standIns := [], harness := (true, "7a9083c409d6a32e7f683ed9e93fab38d2a1ceeb7a1125f270ec8369010ca07d"), looks := false }, kinds := [], alts := [], laidByText := true, laidKinds := [.data], laidTests := true, laidLooks := .later }
def RateLevelsCardSaid : Prop := Claim7.holds Tryd.pinned (.plain (OpenSpec.ofChange rateLevelsSpec)) rateLevelsCard

/-- THE TIED CARD OF 'hotspotlaw09.RateReplies'. -/
def rateRepliesCard : Claim7 := { stood := { row := rateRepliesRow, standIns := [], harness := (true, "7a9083c409d6a32e7f683ed9e93fab38d2a1ceeb7a1125f270ec8369010ca07d"), looks := false }, kinds := [], alts := [], laidByText := true, laidKinds := [.data], laidTests := true, laidLooks := .later }
def RateRepliesCardSaid : Prop := Claim7.holds Tryd.pinned (.plain (OpenSpec.ofChange rateRepliesSpec)) rateRepliesCard

/-- THE SECOND FORM's CARD OF 'hotspotlaw09.RateNames'. -/
def rateNamesUptoCard : Claim7 := { stood := { row := rateNamesUptoRow, standIns := [], harness := (true, "7a9083c409d6a32e7f683ed9e93fab38d2a1ceeb7a1125f270ec8369010ca07d"), looks := false }, kinds := [], alts := [], laidByText := true, laidKinds := [.data], laidTests := true, laidLooks := .later }
def RateNamesUptoCardSaid : Prop := Claim7.holds Tryd.pinned (.plain (OpenSpec.upto rateNamesSpec)) rateNamesUptoCard

/-- THE SECOND FORM's CARD OF 'hotspotlaw09.RateTable'. -/
def rateTableUptoCard : Claim7 := { stood := { row := rateTableUptoRow, standIns := [], harness := (true, "7a9083c409d6a32e7f683ed9e93fab38d2a1ceeb7a1125f270ec8369010ca07d"), looks := false }, kinds := [], alts := [], laidByText := true, laidKinds := [.data], laidTests := true, laidLooks := .later }
def RateTableUptoCardSaid : Prop := Claim7.holds Tryd.pinned (.plain (OpenSpec.upto rateTableSpec)) rateTableUptoCard

/-- THE SECOND FORM's CARD OF 'hotspotlaw09.RateTimes'. -/
def rateTimesUptoCard : Claim7 := { stood := { row := rateTimesUptoRow, standIns := [], harness := (true, "7a9083c409d6a32e7f683ed9e93fab38d2a1ceeb7a1125f270ec8369010ca07d"), looks := false }, kinds := [], alts := [], laidByText := true, laidKinds := [.data], laidTests := true, laidLooks := .later }
def RateTimesUptoCardSaid : Prop := Claim7.holds Tryd.pinned (.plain (OpenSpec.upto rateTimesSpec)) rateTimesUptoCard

/-- THE SECOND FORM's CARD OF 'hotspotlaw09.RateMonotone'. -/
def rateMonotoneUptoCard : Claim7 := { stood := { row := rateMonotoneUptoRow, standIns := [], harness := (true, "7a9083c409d6a32e7f683ed9e93fab38d2a1ceeb7a1125f270ec8369010ca07d"), looks := false }, kinds := [], alts := [], laidByText := true, laidKinds := [.data], laidTests := true, laidLooks := .later }
def RateMonotoneUptoCardSaid : Prop := Claim7.holds Tryd.pinned (.plain (OpenSpec.upto rateMonotoneSpec)) rateMonotoneUptoCard

/-- THE SECOND FORM's CARD OF 'hotspotlaw09.RateFits'. -/
def rateFitsUptoCard : Claim7 := { stood := { row := rateFitsUptoRow, standIns := [], harness := (true, "7a9083c409d6a32e7f683ed9e93fab38d2a1ceeb7a1125f270ec8369010ca07d"), looks := false }, kinds := [], alts := [], laidByText := true, laidKinds := [.data], laidTests := true, laidLooks := .later }
def RateFitsUptoCardSaid : Prop := Claim7.holds Tryd.pinned (.plain (OpenSpec.upto rateFitsSpec)) rateFitsUptoCard

/-- THE SECOND FORM's CARD OF 'hotspotlaw09.RateLevels'. -/
def rateLevelsUptoCard : Claim7 := { stood := { row := rateLevelsUptoRow, standIns := [], harness := (true, "7a9083c409d6a32e7f683ed9e93fab38d2a1ceeb7a1125f270ec8369010ca07d"), looks := false }, kinds := [], alts := [], laidByText := true, laidKinds := [.data], laidTests := true, laidLooks := .later }
def RateLevelsUptoCardSaid : Prop := Claim7.holds Tryd.pinned (.plain (OpenSpec.upto rateLevelsSpec)) rateLevelsUptoCard

/-- THE SECOND FORM's CARD OF 'hotspotlaw09.RateReplies'. -/
def rateRepliesUptoCard : Claim7 := { stood := { row := rateRepliesUptoRow, standIns := [], harness := (true, "7a9083c409d6a32e7f683ed9e93fab38d2a1ceeb7a1125f270ec8369010ca07d"), looks := false }, kinds := [], alts := [], laidByText := true, laidKinds := [.data], laidTests := true, laidLooks := .later }
def RateRepliesUptoCardSaid : Prop := Claim7.holds Tryd.pinned (.plain (OpenSpec.upto rateRepliesSpec)) rateRepliesUptoCard
end Rows
end Go.Proofs.YtlenidhjjganeaaDoor
