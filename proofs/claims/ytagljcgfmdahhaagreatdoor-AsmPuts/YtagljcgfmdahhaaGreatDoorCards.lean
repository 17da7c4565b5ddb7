/-
  DERIVED. GIVEN WITH THE SEED: THE CARDS: each row of YtagljcgfmdahhaaGreatDoorRows.lean that lists a variable, with what it lists TIED to the program's text (the seventh form; the later family's looks); each row that meets fmt, with fmt's text TOLD by the authors' own Lean function (tested against real Go, not proved from fmt's source: count such statements apart). THE CARD IS WHAT COUNTS. Prove the row's statement (the work); the ties are given (YtagljcgfmdahhaaGreatDoorTie.lean); close each card by the builder's one call (the guide's Derived/Test/ToyasCard.lean, 'card_holds'). Laid BY PROGRAM, IN A SANDBOX (cutbox-door.mjs). By AI agents, Wed Nov 11 2026. No macro, syntax, notation, axiom, sorry.
-/
import Derived.Test.YtagljcgfmdahhaaGreatDoorRows
import GoSem.ClaimSeven
namespace Go.Proofs.YtagljcgfmdahhaaGreatDoor
namespace Rows

/-- THE TIED CARD OF 'curtilagelaw10.AsmPuts'. -/
def asmPutsCard : Claim7 := { stood := { row := asmPutsRow, standIns := [], harness := (true, "4b6dbf2cb406ec6b52420c0876f7b3f3e599a0b95d9dd754324b4f866b9cccb4"), looks := true }, kinds := [], alts := [], laidByText := true, laidKinds := [.data, .data, .data, .data, .sentinel, .sentinel, .pinned], laidTests := true, laidLooks := .later }
def AsmPutsCardSaid : Prop := Claim7.holds Tryz.pinned (.plain (OpenSpec.ofChange asmPutsSpec)) asmPutsCard

/-- THE TIED CARD OF 'curtilagelaw10.AsmReads'. -/
def asmReadsCard : Claim7 := { stood := { row := asmReadsRow, standIns := [], harness := (true, "4b6dbf2cb406ec6b52420c0876f7b3f3e599a0b95d9dd754324b4f866b9cccb4"), looks := true }, kinds := [], alts := [], laidByText := true, laidKinds := [.data, .data, .data, .data, .sentinel, .sentinel, .pinned], laidTests := true, laidLooks := .later }
def AsmReadsCardSaid : Prop := Claim7.holds Tryz.pinned (.plain (OpenSpec.ofChange asmReadsSpec)) asmReadsCard

/-- THE TIED CARD OF 'curtilagelaw10.AsmBack'. -/
def asmBackCard : Claim7 := { stood := { row := asmBackRow, standIns := [], harness := (true, "4b6dbf2cb406ec6b52420c0876f7b3f3e599a0b95d9dd754324b4f866b9cccb4"), looks := true }, kinds := [], alts := [], laidByText := true, laidKinds := [.data, .data, .data, .data, .sentinel, .sentinel, .pinned], laidTests := true, laidLooks := .later }
def AsmBackCardSaid : Prop := Claim7.holds Tryz.pinned (.plain (OpenSpec.ofChange asmBackSpec)) asmBackCard

/-- THE TIED CARD OF 'curtilagelaw10.AsmGoes'. -/
def asmGoesCard : Claim7 := { stood := { row := asmGoesRow, standIns := [], harness := (true, "4b6dbf2cb406ec6b52420c0876f7b3f3e599a0b95d9dd754324b4f866b9cccb4"), looks := true }, kinds := [], alts := [], laidByText := true, laidKinds := [.data, .data, .data, .data, .sentinel, .sentinel, .pinned], laidTests := true, laidLooks := .later }
def AsmGoesCardSaid : Prop := Claim7.holds Tryz.pinned (.plain (OpenSpec.ofChange asmGoesSpec)) asmGoesCard

/-- THE TIED CARD OF 'curtilagelaw10.AsmJoins'. -/
def asmJoinsCard : Claim7 := { stood := { row := asmJoinsRow, standIns := [], harness := (true, "4b6dbf2cb406ec6b52420c0876f7b3f3e599a0b95d9dd754324b4f866b9cccb4"), looks := true }, kinds := [], alts := [], laidByText := true, laidKinds := [.data, .data, .data, .data, .sentinel, .sentinel, .pinned], laidTests := true, laidLooks := .later }
def AsmJoinsCardSaid : Prop := Claim7.holds Tryz.pinned (.plain (OpenSpec.ofChange asmJoinsSpec)) asmJoinsCard

/-- THE SECOND FORM's CARD OF 'curtilagelaw10.AsmPuts'. -/
def asmPutsUptoCard : Claim7 := { stood := { row := asmPutsUptoRow, standIns := [], harness := (true, "4b6dbf2cb406ec6b52420c0876f7b3f3e599a0b95d9dd754324b4f866b9cccb4"), looks := true }, kinds := [], alts := [], laidByText := true, laidKinds := [.data, .data, .data, .data, .sentinel, .sentinel, .pinned], laidTests := true, laidLooks := .later }
def AsmPutsUptoCardSaid : Prop := Claim7.holds Tryz.pinned (.plain (OpenSpec.upto asmPutsSpec)) asmPutsUptoCard

/-- THE SECOND FORM's CARD OF 'curtilagelaw10.AsmReads'. -/
def asmReadsUptoCard : Claim7 := { stood := { row := asmReadsUptoRow, standIns := [], harness := (true, "4b6dbf2cb406ec6b52420c0876f7b3f3e599a0b95d9dd754324b4f866b9cccb4"), looks := true }, kinds := [], alts := [], laidByText := true, laidKinds := [.data, .data, .data, .data, .sentinel, .sentinel, .pinned], laidTests := true, laidLooks := .later }
def AsmReadsUptoCardSaid : Prop := Claim7.holds Tryz.pinned (.plain (OpenSpec.upto asmReadsSpec)) asmReadsUptoCard

/-- THE SECOND FORM's CARD OF 'curtilagelaw10.AsmBack'. -/
def asmBackUptoCard : Claim7 := { stood := { row := asmBackUptoRow, standIns := [], harness := (true, "4b6dbf2cb406ec6b52420c0876f7b3f3e599a0b95d9dd754324b4f866b9cccb4"), looks := true }, kinds := [], alts := [], laidByText := true, laidKinds := [.data, .data, .data, .data, .sentinel, .sentinel, .pinned], laidTests := true, laidLooks := .later }
def AsmBackUptoCardSaid : Prop := Claim7.holds Tryz.pinned (.plain (OpenSpec.upto asmBackSpec)) asmBackUptoCard

/-- THE SECOND FORM's CARD OF 'curtilagelaw10.AsmGoes'. -/
def asmGoesUptoCard : Claim7 := { stood := { row := asmGoesUptoRow, standIns := [], harness := (true, "4b6dbf2cb406ec6b52420c0876f7b3f3e599a0b95d9dd754324b4f866b9cccb4"), looks := true }, kinds := [], alts := [], laidByText := true, laidKinds := [.data, .data, .data, .data, .sentinel, .sentinel, .pinned], laidTests := true, laidLooks := .later }
def AsmGoesUptoCardSaid : Prop := Claim7.holds Tryz.pinned (.plain (OpenSpec.upto asmGoesSpec)) asmGoesUptoCard

/-- THE SECOND FORM's CARD OF 'curtilagelaw10.AsmJoins'. -/
def asmJoinsUptoCard : Claim7 := { stood := { row := asmJoinsUptoRow, standIns := [], harness := (true, "4b6dbf2cb406ec6b52420c0876f7b3f3e599a0b95d9dd754324b4f866b9cccb4"), looks := true }, kinds := [], alts := [], laidByText := true, laidKinds := [.data, .data, .data, .data, .sentinel, .sentinel, .pinned], laidTests := true, laidLooks := .later }
def AsmJoinsUptoCardSaid : Prop := Claim7.holds Tryz.pinned (.plain (OpenSpec.upto asmJoinsSpec)) asmJoinsUptoCard
end Rows
end Go.Proofs.YtagljcgfmdahhaaGreatDoor
