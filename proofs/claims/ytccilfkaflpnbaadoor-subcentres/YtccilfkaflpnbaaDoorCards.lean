/-
  DERIVED. GIVEN WITH THE SEED: THE CARDS: each row of YtccilfkaflpnbaaDoorRows.lean that lists a variable, with what it lists TIED to the program's text (the seventh form; the later family's looks); each row that meets fmt, with fmt's text TOLD by the authors' own Lean function (tested against real Go, not proved from fmt's source: count such statements apart). THE CARD IS WHAT COUNTS. Prove the row's statement (the work); the ties are given (YtccilfkaflpnbaaDoorTie.lean); close each card by the builder's one call (the guide's Derived/Test/ToyasCard.lean, 'card_holds'). Laid BY PROGRAM, IN A SANDBOX (cutbox-door.mjs). By AI agents, Wed Nov 11 2026. No macro, syntax, notation, axiom, sorry.
-/
import Derived.Test.YtccilfkaflpnbaaDoorRows
import GoSem.ClaimSeven
namespace Go.Proofs.YtccilfkaflpnbaaDoor
namespace Rows

/-- THE TIED CARD OF 'cayleylaw.SubAll'. -/
def subAllCard : Claim7 := { stood := { row := subAllRow, standIns := [], harness := (true, "8a6702e527b0fa1b0272006b257c18cceef2b913c47b4666f18bd5ec1e795133"), looks := false }, kinds := [], alts := [], laidByText := true, laidKinds := [.data], laidTests := true, laidLooks := .later }
def SubAllCardSaid : Prop := Claim7.holds Tryd.pinned (.plain (OpenSpec.ofChange subAllSpec)) subAllCard

/-- THE TIED CARD OF 'cayleylaw.SubCentres'. -/
def subCentresCard : Claim7 := { stood := { row := subCentresRow, standIns := [], harness := (true, "8a6702e527b0fa1b0272006b257c18cceef2b913c47b4666f18bd5ec1e795133"), looks := false }, kinds := [], alts := [], laidByText := true, laidKinds := [.data], laidTests := true, laidLooks := .later }
def SubCentresCardSaid : Prop := Claim7.holds Tryd.pinned (.plain (OpenSpec.ofChange subCentresSpec)) subCentresCard

/-- THE TIED CARD OF 'cayleylaw.SubNormal'. -/
def subNormalCard : Claim7 := { stood := { row := subNormalRow, standIns := [], harness := (true, "8a6702e527b0fa1b0272006b257c18cceef2b913c47b4666f18bd5ec1e795133"), looks := false }, kinds := [], alts := [], laidByText := true, laidKinds := [.data], laidTests := true, laidLooks := .later }
def SubNormalCardSaid : Prop := Claim7.holds Tryd.pinned (.plain (OpenSpec.ofChange subNormalSpec)) subNormalCard

/-- THE TIED CARD OF 'cayleylaw.SubMeets'. -/
def subMeetsCard : Claim7 := { stood := { row := subMeetsRow, standIns := [], harness := (true, "8a6702e527b0fa1b0272006b257c18cceef2b913c47b4666f18bd5ec1e795133"), looks := false }, kinds := [], alts := [], laidByText := true, laidKinds := [.data], laidTests := true, laidLooks := .later }
def SubMeetsCardSaid : Prop := Claim7.holds Tryd.pinned (.plain (OpenSpec.ofChange subMeetsSpec)) subMeetsCard

/-- THE TIED CARD OF 'cayleylaw.SubNeedless'. -/
def subNeedlessCard : Claim7 := { stood := { row := subNeedlessRow, standIns := [], harness := (true, "8a6702e527b0fa1b0272006b257c18cceef2b913c47b4666f18bd5ec1e795133"), looks := false }, kinds := [], alts := [], laidByText := true, laidKinds := [.data], laidTests := true, laidLooks := .later }
def SubNeedlessCardSaid : Prop := Claim7.holds Tryd.pinned (.plain (OpenSpec.ofChange subNeedlessSpec)) subNeedlessCard

/-- THE TIED CARD OF 'cayleylaw.CosetLists'. -/
def cosetListsCard : Claim7 := { stood := { row := cosetListsRow, standIns := [], harness := (true, "8a6702e527b0fa1b0272006b257c18cceef2b913c47b4666f18bd5ec1e795133"), looks := false }, kinds := [], alts := [], laidByText := true, laidKinds := [.data], laidTests := true, laidLooks := .later }
def CosetListsCardSaid : Prop := Claim7.holds Tryd.pinned (.plain (OpenSpec.ofChange cosetListsSpec)) cosetListsCard

/-- THE TIED CARD OF 'cayleylaw.CosetDouble'. -/
def cosetDoubleCard : Claim7 := { stood := { row := cosetDoubleRow, standIns := [], harness := (true, "8a6702e527b0fa1b0272006b257c18cceef2b913c47b4666f18bd5ec1e795133"), looks := false }, kinds := [], alts := [], laidByText := true, laidKinds := [.data], laidTests := true, laidLooks := .later }
def CosetDoubleCardSaid : Prop := Claim7.holds Tryd.pinned (.plain (OpenSpec.ofChange cosetDoubleSpec)) cosetDoubleCard

/-- THE TIED CARD OF 'cayleylaw.CosetActs'. -/
def cosetActsCard : Claim7 := { stood := { row := cosetActsRow, standIns := [], harness := (true, "8a6702e527b0fa1b0272006b257c18cceef2b913c47b4666f18bd5ec1e795133"), looks := false }, kinds := [], alts := [], laidByText := true, laidKinds := [.data], laidTests := true, laidLooks := .later }
def CosetActsCardSaid : Prop := Claim7.holds Tryd.pinned (.plain (OpenSpec.ofChange cosetActsSpec)) cosetActsCard

/-- THE TIED CARD OF 'cayleylaw.CosetTowers'. -/
def cosetTowersCard : Claim7 := { stood := { row := cosetTowersRow, standIns := [], harness := (true, "8a6702e527b0fa1b0272006b257c18cceef2b913c47b4666f18bd5ec1e795133"), looks := false }, kinds := [], alts := [], laidByText := true, laidKinds := [.data], laidTests := true, laidLooks := .later }
def CosetTowersCardSaid : Prop := Claim7.holds Tryd.pinned (.plain (OpenSpec.ofChange cosetTowersSpec)) cosetTowersCard

/-- THE TIED CARD OF 'cayleylaw.CosetSides'. -/
def cosetSidesCard : Claim7 := { stood := { row := cosetSidesRow, standIns := [], harness := (true, "8a6702e527b0fa1b0272006b257c18cceef2b913c47b4666f18bd5ec1e795133"), looks := false }, kinds := [], alts := [], laidByText := true, laidKinds := [.data], laidTests := true, laidLooks := .later }
def CosetSidesCardSaid : Prop := Claim7.holds Tryd.pinned (.plain (OpenSpec.ofChange cosetSidesSpec)) cosetSidesCard

/-- THE SECOND FORM's CARD OF 'cayleylaw.SubAll'. -/
def subAllUptoCard : Claim7 := { stood := { row := subAllUptoRow, standIns := [], harness := (true, "8a6702e527b0fa1b0272006b257c18cceef2b913c47b4666f18bd5ec1e795133"), looks := false }, kinds := [], alts := [], laidByText := true, laidKinds := [.data], laidTests := true, laidLooks := .later }
def SubAllUptoCardSaid : Prop := Claim7.holds Tryd.pinned (.plain (OpenSpec.upto subAllSpec)) subAllUptoCard

/-- THE SECOND FORM's CARD OF 'cayleylaw.SubCentres'. -/
def subCentresUptoCard : Claim7 := { stood := { row := subCentresUptoRow, standIns := [], harness := (true, "8a6702e527b0fa1b0272006b257c18cceef2b913c47b4666f18bd5ec1e795133"), looks := false }, kinds := [], alts := [], laidByText := true, laidKinds := [.data], laidTests := true, laidLooks := .later }
def SubCentresUptoCardSaid : Prop := Claim7.holds Tryd.pinned (.plain (OpenSpec.upto subCentresSpec)) subCentresUptoCard

/-- THE SECOND FORM's CARD OF 'cayleylaw.SubNormal'. -/
def subNormalUptoCard : Claim7 := { stood := { row := subNormalUptoRow, standIns := [], harness := (true, "8a6702e527b0fa1b0272006b257c18cceef2b913c47b4666f18bd5ec1e795133"), looks := false }, kinds := [], alts := [], laidByText := true, laidKinds := [.data], laidTests := true, laidLooks := .later }
def SubNormalUptoCardSaid : Prop := Claim7.holds Tryd.pinned (.plain (OpenSpec.upto subNormalSpec)) subNormalUptoCard

/-- THE SECOND FORM's CARD OF 'cayleylaw.SubMeets'. -/
def subMeetsUptoCard : Claim7 := { stood := { row := subMeetsUptoRow, standIns := [], harness := (true, "8a6702e527b0fa1b0272006b257c18cceef2b913c47b4666f18bd5ec1e795133"), looks := false }, kinds := [], alts := [], laidByText := true, laidKinds := [.data], laidTests := true, laidLooks := .later }
def SubMeetsUptoCardSaid : Prop := Claim7.holds Tryd.pinned (.plain (OpenSpec.upto subMeetsSpec)) subMeetsUptoCard

/-- THE SECOND FORM's CARD OF 'cayleylaw.SubNeedless'. -/
def subNeedlessUptoCard : Claim7 := { stood := { row := subNeedlessUptoRow, standIns := [], harness := (true, "8a6702e527b0fa1b0272006b257c18cceef2b913c47b4666f18bd5ec1e795133"), looks := false }, kinds := [], alts := [], laidByText := true, laidKinds := [.data], laidTests := true, laidLooks := .later }
def SubNeedlessUptoCardSaid : Prop := Claim7.holds Tryd.pinned (.plain (OpenSpec.upto subNeedlessSpec)) subNeedlessUptoCard

/-- THE SECOND FORM's CARD OF 'cayleylaw.CosetLists'. -/
def cosetListsUptoCard : Claim7 := { stood := { row := cosetListsUptoRow, standIns := [], harness := (true, "8a6702e527b0fa1b0272006b257c18cceef2b913c47b4666f18bd5ec1e795133"), looks := false }, kinds := [], alts := [], laidByText := true, laidKinds := [.data], laidTests := true, laidLooks := .later }
def CosetListsUptoCardSaid : Prop := Claim7.holds Tryd.pinned (.plain (OpenSpec.upto cosetListsSpec)) cosetListsUptoCard

/-- THE SECOND FORM's CARD OF 'cayleylaw.CosetDouble'. -/
def cosetDoubleUptoCard : Claim7 := { stood := { row := cosetDoubleUptoRow, standIns := [], harness := (true, "8a6702e527b0fa1b0272006b257c18cceef2b913c47b4666f18bd5ec1e795133"), looks := false }, kinds := [], alts := [], laidByText := true, laidKinds := [.data], laidTests := true, laidLooks := .later }
def CosetDoubleUptoCardSaid : Prop := Claim7.holds Tryd.pinned (.plain (OpenSpec.upto cosetDoubleSpec)) cosetDoubleUptoCard

/-- THE SECOND FORM's CARD OF 'cayleylaw.CosetActs'. -/
def cosetActsUptoCard : Claim7 := { stood := { row := cosetActsUptoRow, standIns := [], harness := (true, "8a6702e527b0fa1b0272006b257c18cceef2b913c47b4666f18bd5ec1e795133"), looks := false }, kinds := [], alts := [], laidByText := true, laidKinds := [.data], laidTests := true, laidLooks := .later }
def CosetActsUptoCardSaid : Prop := Claim7.holds Tryd.pinned (.plain (OpenSpec.upto cosetActsSpec)) cosetActsUptoCard

/-- THE SECOND FORM's CARD OF 'cayleylaw.CosetTowers'. -/
def cosetTowersUptoCard : Claim7 := { stood := { row := cosetTowersUptoRow, standIns := [], harness := (true, "8a6702e527b0fa1b0272006b257c18cceef2b913c47b4666f18bd5ec1e795133"), looks := false }, kinds := [], alts := [], laidByText := true, laidKinds := [.data], laidTests := true, laidLooks := .later }
def CosetTowersUptoCardSaid : Prop := Claim7.holds Tryd.pinned (.plain (OpenSpec.upto cosetTowersSpec)) cosetTowersUptoCard

/-- THE SECOND FORM's CARD OF 'cayleylaw.CosetSides'. -/
def cosetSidesUptoCard : Claim7 := { stood := { row := cosetSidesUptoRow, standIns := [], harness := (true, "8a6702e527b0fa1b0272006b257c18cceef2b913c47b4666f18bd5ec1e795133"), looks := false }, kinds := [], alts := [], laidByText := true, laidKinds := [.data], laidTests := true, laidLooks := .later }
def CosetSidesUptoCardSaid : Prop := Claim7.holds Tryd.pinned (.plain (OpenSpec.upto cosetSidesSpec)) cosetSidesUptoCard
end Rows
end Go.Proofs.YtccilfkaflpnbaaDoor
