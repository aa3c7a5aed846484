/-
  DERIVED. GIVEN WITH THE SEED: THE CARDS: each row of YtdhlejhflkfoaaaDoorRows.lean that lists a variable, with what it lists TIED to the program's text (the seventh form; the later family's looks); each row that meets fmt, with fmt's text TOLD by the authors' own Lean function (tested against real Go, not proved from fmt's source: count such statements apart). THE CARD IS WHAT COUNTS. Prove the row's statement (the work); the ties are given (YtdhlejhflkfoaaaDoorTie.lean); close each card by the builder's one call (the guide's Derived/Test/ToyasCard.lean, 'card_holds'). Laid BY PROGRAM, IN A SANDBOX (cutbox-door.mjs). By AI agents, Wed Nov 11 2026. No macro, syntax, notation, axiom, sorry.
-/
import Derived.Test.YtdhlejhflkfoaaaDoorRows
import GoSem.ClaimSeven
namespace Go.Proofs.YtdhlejhflkfoaaaDoor
namespace Rows

/-- THE TIED CARD OF 'wharfagelaw14.BoxRows'. -/
def boxRowsCard : Claim7 := { stood := { row := boxRowsRow, standIns := [], harness := (true, "af617f8a25e47cd6505b088db616c45ee7b5ec6c84eed43ff613f35a63f13027"), looks := false }, kinds := [], alts := [], laidByText := true, laidKinds := [.data, .pinned], laidTests := true, laidLooks := .later }
def BoxRowsCardSaid : Prop := Claim7.holds Tryd.pinned (.plain (OpenSpec.ofChange boxRowsSpec)) boxRowsCard

/-- THE TIED CARD OF 'wharfagelaw14.BoxLoads'. -/
def boxLoadsCard : Claim7 := { stood := { row := boxLoadsRow, standIns := [], harness := (true, "af617f8a25e47cd6505b088db616c45ee7b5ec6c84eed43ff613f35a63f13027"), looks := false }, kinds := [], alts := [], laidByText := true, laidKinds := [.data, .pinned], laidTests := true, laidLooks := .later }
def BoxLoadsCardSaid : Prop := Claim7.holds Tryd.pinned (.plain (OpenSpec.ofChange boxLoadsSpec)) boxLoadsCard

/-- THE TIED CARD OF 'wharfagelaw14.BoxBack'. -/
def boxBackCard : Claim7 := { stood := { row := boxBackRow, standIns := [], harness := (true, "af617f8a25e47cd6505b088db616c45ee7b5ec6c84eed43ff613f35a63f13027"), looks := false }, kinds := [], alts := [], laidByText := true, laidKinds := [.data, .pinned], laidTests := true, laidLooks := .later }
def BoxBackCardSaid : Prop := Claim7.holds Tryd.pinned (.plain (OpenSpec.ofChange boxBackSpec)) boxBackCard

/-- THE SECOND FORM's CARD OF 'wharfagelaw14.BoxRows'. -/
def boxRowsUptoCard : Claim7 := { stood := { row := boxRowsUptoRow, standIns := [], harness := (true, "af617f8a25e47cd6505b088db616c45ee7b5ec6c84eed43ff613f35a63f13027"), looks := false }, kinds := [], alts := [], laidByText := true, laidKinds := [.data, .pinned], laidTests := true, laidLooks := .later }
def BoxRowsUptoCardSaid : Prop := Claim7.holds Tryd.pinned (.plain (OpenSpec.upto boxRowsSpec)) boxRowsUptoCard

/-- THE SECOND FORM's CARD OF 'wharfagelaw14.BoxLoads'. -/
def boxLoadsUptoCard : Claim7 := { stood := { row := boxLoadsUptoRow, standIns := [], harness := (true, "af617f8a25e47cd6505b088db616c45ee7b5ec6c84eed43ff613f35a63f13027"), looks := false }, kinds := [], alts := [], laidByText := true, laidKinds := [.data, .pinned], laidTests := true, laidLooks := .later }
def BoxLoadsUptoCardSaid : Prop := Claim7.holds Tryd.pinned (.plain (OpenSpec.upto boxLoadsSpec)) boxLoadsUptoCard

/-- THE SECOND FORM's CARD OF 'wharfagelaw14.BoxBack'. -/
def boxBackUptoCard : Claim7 := { stood := { row := boxBackUptoRow, standIns := [], harness := (true, "af617f8a25e47cd6505b088db616c45ee7b5ec6c84eed43ff613f35a63f13027"), looks := false }, kinds := [], alts := [], laidByText := true, laidKinds := [.data, .pinned], laidTests := true, laidLooks := .later }
def BoxBackUptoCardSaid : Prop := Claim7.holds Tryd.pinned (.plain (OpenSpec.upto boxBackSpec)) boxBackUptoCard
end Rows
end Go.Proofs.YtdhlejhflkfoaaaDoor
