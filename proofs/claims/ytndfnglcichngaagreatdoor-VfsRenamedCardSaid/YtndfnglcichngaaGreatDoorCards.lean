/-
  DERIVED. GIVEN WITH THE SEED: THE CARDS: each row of YtndfnglcichngaaGreatDoorRows.lean that lists a variable, with what it lists TIED to the program's text (the seventh form; the later family's looks); each row that meets fmt, with fmt's text TOLD by the authors' own Lean function (tested against real Go, not proved from fmt's source: count such statements apart). THE CARD IS WHAT COUNTS. Prove the row's statement (the work); the ties are given (YtndfnglcichngaaGreatDoorTie.lean); close each card by the builder's one call (the guide's Derived/Test/ToyasCard.lean, 'card_holds'). Laid BY PROGRAM, IN A SANDBOX (cutbox-door.mjs). By AI agents, Wed Nov 11 2026. No macro, syntax, notation, axiom, sorry.
-/
import Derived.Test.YtndfnglcichngaaGreatDoorRows
import GoSem.ClaimSeven
namespace Go.Proofs.YtndfnglcichngaaGreatDoor
namespace Rows

/-- THE TIED CARD OF 'coxswainlaw22.VfsScript'. -/
def vfsScriptCard : Claim7 := { stood := { row := vfsScriptRow, standIns := [], harness := (true, "a8d96fc0f7a9068e9a2b1e81af30fa1881bbcbe5d75b3ed4fb39314d0c8e566e"), looks := false }, kinds := [], alts := [], laidByText := true, laidKinds := [.data, .pinned], laidTests := true, laidLooks := .later }
def VfsScriptCardSaid : Prop := Claim7.holds Tryz.pinned (.plain (OpenSpec.ofChange vfsScriptSpec)) vfsScriptCard

/-- THE TIED CARD OF 'coxswainlaw22.VfsErrors'. -/
def vfsErrorsCard : Claim7 := { stood := { row := vfsErrorsRow, standIns := [], harness := (true, "a8d96fc0f7a9068e9a2b1e81af30fa1881bbcbe5d75b3ed4fb39314d0c8e566e"), looks := false }, kinds := [], alts := [], laidByText := true, laidKinds := [.data, .pinned], laidTests := true, laidLooks := .later }
def VfsErrorsCardSaid : Prop := Claim7.holds Tryz.pinned (.plain (OpenSpec.ofChange vfsErrorsSpec)) vfsErrorsCard

/-- THE TIED CARD OF 'coxswainlaw22.VfsLinked'. -/
def vfsLinkedCard : Claim7 := { stood := { row := vfsLinkedRow, standIns := [], harness := (true, "a8d96fc0f7a9068e9a2b1e81af30fa1881bbcbe5d75b3ed4fb39314d0c8e566e"), looks := false }, kinds := [], alts := [], laidByText := true, laidKinds := [.data, .pinned], laidTests := true, laidLooks := .later }
def VfsLinkedCardSaid : Prop := Claim7.holds Tryz.pinned (.plain (OpenSpec.ofChange vfsLinkedSpec)) vfsLinkedCard

/-- THE TIED CARD OF 'coxswainlaw22.VfsOpen'. -/
def vfsOpenCard : Claim7 := { stood := { row := vfsOpenRow, standIns := [], harness := (true, "a8d96fc0f7a9068e9a2b1e81af30fa1881bbcbe5d75b3ed4fb39314d0c8e566e"), looks := false }, kinds := [], alts := [], laidByText := true, laidKinds := [.data, .pinned], laidTests := true, laidLooks := .later }
def VfsOpenCardSaid : Prop := Claim7.holds Tryz.pinned (.plain (OpenSpec.ofChange vfsOpenSpec)) vfsOpenCard

/-- THE TIED CARD OF 'coxswainlaw22.VfsNone'. -/
def vfsNoneCard : Claim7 := { stood := { row := vfsNoneRow, standIns := [], harness := (true, "a8d96fc0f7a9068e9a2b1e81af30fa1881bbcbe5d75b3ed4fb39314d0c8e566e"), looks := false }, kinds := [], alts := [], laidByText := true, laidKinds := [.data, .pinned], laidTests := true, laidLooks := .later }
def VfsNoneCardSaid : Prop := Claim7.holds Tryz.pinned (.plain (OpenSpec.ofChange vfsNoneSpec)) vfsNoneCard

/-- THE TIED CARD OF 'coxswainlaw22.VfsDeep'. -/
def vfsDeepCard : Claim7 := { stood := { row := vfsDeepRow, standIns := [], harness := (true, "a8d96fc0f7a9068e9a2b1e81af30fa1881bbcbe5d75b3ed4fb39314d0c8e566e"), looks := false }, kinds := [], alts := [], laidByText := true, laidKinds := [.data, .pinned], laidTests := true, laidLooks := .later }
def VfsDeepCardSaid : Prop := Claim7.holds Tryz.pinned (.plain (OpenSpec.ofChange vfsDeepSpec)) vfsDeepCard

/-- THE TIED CARD OF 'coxswainlaw22.VfsRenamed'. -/
def vfsRenamedCard : Claim7 := { stood := { row := vfsRenamedRow, standIns := [], harness := (true, "a8d96fc0f7a9068e9a2b1e81af30fa1881bbcbe5d75b3ed4fb39314d0c8e566e"), looks := false }, kinds := [], alts := [], laidByText := true, laidKinds := [.data, .pinned], laidTests := true, laidLooks := .later }
def VfsRenamedCardSaid : Prop := Claim7.holds Tryz.pinned (.plain (OpenSpec.ofChange vfsRenamedSpec)) vfsRenamedCard

/-- THE SECOND FORM's CARD OF 'coxswainlaw22.VfsScript'. -/
def vfsScriptUptoCard : Claim7 := { stood := { row := vfsScriptUptoRow, standIns := [], harness := (true, "a8d96fc0f7a9068e9a2b1e81af30fa1881bbcbe5d75b3ed4fb39314d0c8e566e"), looks := false }, kinds := [], alts := [], laidByText := true, laidKinds := [.data, .pinned], laidTests := true, laidLooks := .later }
def VfsScriptUptoCardSaid : Prop := Claim7.holds Tryz.pinned (.plain (OpenSpec.upto vfsScriptSpec)) vfsScriptUptoCard

/-- THE SECOND FORM's CARD OF 'coxswainlaw22.VfsErrors'. -/
def vfsErrorsUptoCard : Claim7 := { stood := { row := vfsErrorsUptoRow, standIns := [], harness := (true, "a8d96fc0f7a9068e9a2b1e81af30fa1881bbcbe5d75b3ed4fb39314d0c8e566e"), looks := false }, kinds := [], alts := [], laidByText := true, laidKinds := [.data, .pinned], laidTests := true, laidLooks := .later }
def VfsErrorsUptoCardSaid : Prop := Claim7.holds Tryz.pinned (.plain (OpenSpec.upto vfsErrorsSpec)) vfsErrorsUptoCard

/-- THE SECOND FORM's CARD OF 'coxswainlaw22.VfsLinked'. -/
def vfsLinkedUptoCard : Claim7 := { stood := { row := vfsLinkedUptoRow, standIns := [], harness := (true, "a8d96fc0f7a9068e9a2b1e81af30fa1881bbcbe5d75b3ed4fb39314d0c8e566e"), looks := false }, kinds := [], alts := [], laidByText := true, laidKinds := [.data, .pinned], laidTests := true, laidLooks := .later }
def VfsLinkedUptoCardSaid : Prop := Claim7.holds Tryz.pinned (.plain (OpenSpec.upto vfsLinkedSpec)) vfsLinkedUptoCard

/-- THE SECOND FORM's CARD OF 'coxswainlaw22.VfsOpen'. -/
def vfsOpenUptoCard : Claim7 := { stood := { row := vfsOpenUptoRow, standIns := [], harness := (true, "a8d96fc0f7a9068e9a2b1e81af30fa1881bbcbe5d75b3ed4fb39314d0c8e566e"), looks := false }, kinds := [], alts := [], laidByText := true, laidKinds := [.data, .pinned], laidTests := true, laidLooks := .later }
def VfsOpenUptoCardSaid : Prop := Claim7.holds Tryz.pinned (.plain (OpenSpec.upto vfsOpenSpec)) vfsOpenUptoCard

/-- THE SECOND FORM's CARD OF 'coxswainlaw22.VfsNone'. -/
def vfsNoneUptoCard : Claim7 := { stood := { row := vfsNoneUptoRow, standIns := [], harness := (true, "a8d96fc0f7a9068e9a2b1e81af30fa1881bbcbe5d75b3ed4fb39314d0c8e566e"), looks := false }, kinds := [], alts := [], laidByText := true, laidKinds := [.data, .pinned], laidTests := true, laidLooks := .later }
def VfsNoneUptoCardSaid : Prop := Claim7.holds Tryz.pinned (.plain (OpenSpec.upto vfsNoneSpec)) vfsNoneUptoCard

/-- THE SECOND FORM's CARD OF 'coxswainlaw22.VfsDeep'. -/
def vfsDeepUptoCard : Claim7 := { stood := { row := vfsDeepUptoRow, standIns := [], harness := (true, "a8d96fc0f7a9068e9a2b1e81af30fa1881bbcbe5d75b3ed4fb39314d0c8e566e"), looks := false }, kinds := [], alts := [], laidByText := true, laidKinds := [.data, .pinned], laidTests := true, laidLooks := .later }
def VfsDeepUptoCardSaid : Prop := Claim7.holds Tryz.pinned (.plain (OpenSpec.upto vfsDeepSpec)) vfsDeepUptoCard

/-- THE SECOND FORM's CARD OF 'coxswainlaw22.VfsRenamed'. -/
def vfsRenamedUptoCard : Claim7 := { stood := { row := vfsRenamedUptoRow, standIns := [], harness := (true, "a8d96fc0f7a9068e9a2b1e81af30fa1881bbcbe5d75b3ed4fb39314d0c8e566e"), looks := false }, kinds := [], alts := [], laidByText := true, laidKinds := [.data, .pinned], laidTests := true, laidLooks := .later }
def VfsRenamedUptoCardSaid : Prop := Claim7.holds Tryz.pinned (.plain (OpenSpec.upto vfsRenamedSpec)) vfsRenamedUptoCard
end Rows
end Go.Proofs.YtndfnglcichngaaGreatDoor
