/-
  DERIVED. GIVEN WITH THE SEED: THE CARDS: each row of YtpffldfpabglbaaGreatDoorRows.lean that lists a variable, with what it lists TIED to the program's text (the seventh form; the later family's looks); each row that meets fmt, with fmt's text TOLD by the authors' own Lean function (tested against real Go, not proved from fmt's source: count such statements apart). THE CARD IS WHAT COUNTS. Prove the row's statement (the work); the ties are given (YtpffldfpabglbaaGreatDoorTie.lean); close each card by the builder's one call (the guide's Derived/Test/ToyasCard.lean, 'card_holds'). Laid BY PROGRAM, IN A SANDBOX (cutbox-door.mjs). By AI agents, Wed Nov 11 2026. No macro, syntax, notation, axiom, sorry.
-/
import Derived.Test.YtpffldfpabglbaaGreatDoorRows
import GoSem.ClaimSeven
namespace Go.Proofs.YtpffldfpabglbaaGreatDoor
namespace Rows

/-- THE TIED CARD OF 'latchstringlaw12.TableScript'. -/
def tableScriptCard : Claim7 := { stood := { row := tableScriptRow, standIns := [], harness := (true, "4782bcfa293009114a2b5dfa17d47cb2ad19f6df4a41e9935442db89c5188a6a"), looks := true }, kinds := [], alts := [], laidByText := true, laidKinds := [.data, .data, .data], laidTests := true, laidLooks := .later }
def TableScriptCardSaid : Prop := Claim7.holds Tryz.pinned (.plain (OpenSpec.ofChange tableScriptSpec)) tableScriptCard

/-- THE TIED CARD OF 'latchstringlaw12.TableHolds'. -/
def tableHoldsCard : Claim7 := { stood := { row := tableHoldsRow, standIns := [], harness := (true, "4782bcfa293009114a2b5dfa17d47cb2ad19f6df4a41e9935442db89c5188a6a"), looks := true }, kinds := [], alts := [], laidByText := true, laidKinds := [.data, .data, .data], laidTests := true, laidLooks := .later }
def TableHoldsCardSaid : Prop := Claim7.holds Tryz.pinned (.plain (OpenSpec.ofChange tableHoldsSpec)) tableHoldsCard

/-- THE TIED CARD OF 'latchstringlaw12.TableRoom'. -/
def tableRoomCard : Claim7 := { stood := { row := tableRoomRow, standIns := [], harness := (true, "4782bcfa293009114a2b5dfa17d47cb2ad19f6df4a41e9935442db89c5188a6a"), looks := true }, kinds := [], alts := [], laidByText := true, laidKinds := [.data, .data, .data], laidTests := true, laidLooks := .later }
def TableRoomCardSaid : Prop := Claim7.holds Tryz.pinned (.plain (OpenSpec.ofChange tableRoomSpec)) tableRoomCard

/-- THE TIED CARD OF 'latchstringlaw12.TableApart'. -/
def tableApartCard : Claim7 := { stood := { row := tableApartRow, standIns := [], harness := (true, "4782bcfa293009114a2b5dfa17d47cb2ad19f6df4a41e9935442db89c5188a6a"), looks := true }, kinds := [], alts := [], laidByText := true, laidKinds := [.data, .data, .data], laidTests := true, laidLooks := .later }
def TableApartCardSaid : Prop := Claim7.holds Tryz.pinned (.plain (OpenSpec.ofChange tableApartSpec)) tableApartCard

/-- THE TIED CARD OF 'latchstringlaw12.TableEmpty'. -/
def tableEmptyCard : Claim7 := { stood := { row := tableEmptyRow, standIns := [], harness := (true, "4782bcfa293009114a2b5dfa17d47cb2ad19f6df4a41e9935442db89c5188a6a"), looks := true }, kinds := [], alts := [], laidByText := true, laidKinds := [.data, .data, .data], laidTests := true, laidLooks := .later }
def TableEmptyCardSaid : Prop := Claim7.holds Tryz.pinned (.plain (OpenSpec.ofChange tableEmptySpec)) tableEmptyCard

/-- THE SECOND FORM's CARD OF 'latchstringlaw12.TableScript'. -/
def tableScriptUptoCard : Claim7 := { stood := { row := tableScriptUptoRow, standIns := [], harness := (true, "4782bcfa293009114a2b5dfa17d47cb2ad19f6df4a41e9935442db89c5188a6a"), looks := true }, kinds := [], alts := [], laidByText := true, laidKinds := [.data, .data, .data], laidTests := true, laidLooks := .later }
def TableScriptUptoCardSaid : Prop := Claim7.holds Tryz.pinned (.plain (OpenSpec.upto tableScriptSpec)) tableScriptUptoCard

/-- THE SECOND FORM's CARD OF 'latchstringlaw12.TableHolds'. -/
def tableHoldsUptoCard : Claim7 := { stood := { row := tableHoldsUptoRow, standIns := [], harness := (true, "4782bcfa293009114a2b5dfa17d47cb2ad19f6df4a41e9935442db89c5188a6a"), looks := true }, kinds := [], alts := [], laidByText := true, laidKinds := [.data, .data, .data], laidTests := true, laidLooks := .later }
def TableHoldsUptoCardSaid : Prop := Claim7.holds Tryz.pinned (.plain (OpenSpec.upto tableHoldsSpec)) tableHoldsUptoCard

/-- THE SECOND FORM's CARD OF 'latchstringlaw12.TableRoom'. -/
def tableRoomUptoCard : Claim7 := { stood := { row := tableRoomUptoRow, standIns := [], harness := (true, "4782bcfa293009114a2b5dfa17d47cb2ad19f6df4a41e9935442db89c5188a6a"), looks := true }, kinds := [], alts := [], laidByText := true, laidKinds := [.data, .data, .data], laidTests := true, laidLooks := .later }
def TableRoomUptoCardSaid : Prop := Claim7.holds Tryz.pinned (.plain (OpenSpec.upto tableRoomSpec)) tableRoomUptoCard

/-- THE SECOND FORM's CARD OF 'latchstringlaw12.TableApart'. -/
def tableApartUptoCard : Claim7 := { stood := { row := tableApartUptoRow, standIns := [], harness := (true, "4782bcfa293009114a2b5dfa17d47cb2ad19f6df4a41e9935442db89c5188a6a"), looks := true }, kinds := [], alts := [], laidByText := true, laidKinds := [.data, .data, .data], laidTests := true, laidLooks := .later }
def TableApartUptoCardSaid : Prop := Claim7.holds Tryz.pinned (.plain (OpenSpec.upto tableApartSpec)) tableApartUptoCard

/-- THE SECOND FORM's CARD OF 'latchstringlaw12.TableEmpty'. -/
def tableEmptyUptoCard : Claim7 := { stood := { row := tableEmptyUptoRow, standIns := [], harness := (true, "4782bcfa293009114a2b5dfa17d47cb2ad19f6df4a41e9935442db89c5188a6a"), looks := true }, kinds := [], alts := [], laidByText := true, laidKinds := [.data, .data, .data], laidTests := true, laidLooks := .later }
def TableEmptyUptoCardSaid : Prop := Claim7.holds Tryz.pinned (.plain (OpenSpec.upto tableEmptySpec)) tableEmptyUptoCard
end Rows
end Go.Proofs.YtpffldfpabglbaaGreatDoor
