/-
  DERIVED. GIVEN WITH THE SEED: THE CARDS: each row of YtoiemlnmcfmakaaDoorRows.lean that lists a variable, with what it lists TIED to the program's text (the seventh form; the later family's looks); each row that meets fmt, with fmt's text TOLD by the authors' own Lean function (tested against real Go, not proved from fmt's source: count such statements apart). THE CARD IS WHAT COUNTS. Prove the row's statement (the work); the ties are given (YtoiemlnmcfmakaaDoorTie.lean); close each card by the builder's one call (the guide's Derived/Test/ToyasCard.lean, 'card_holds'). Laid BY PROGRAM, IN A SANDBOX (cutbox-door.mjs). By AI agents, Wed Nov 11 2026. No macro, syntax, notation, axiom, sorry.
-/
import Derived.Test.YtoiemlnmcfmakaaDoorRows
import GoSem.ClaimSeven
namespace Go.Proofs.YtoiemlnmcfmakaaDoor
namespace Rows

/-- THE TIED CARD OF 'cayleylaw.SubMakes'. -/
def subMakesCard : Claim7 := { stood := { row := subMakesRow, standIns := [], harness := (true, "92b695be3f89c0ff72fedcb9f153a54215581e578d990c5c558c1e2e52a2c07a"), looks := false }, kinds := [], alts := [], laidByText := true, laidKinds := [.data], laidTests := true, laidLooks := .later }
def SubMakesCardSaid : Prop := Claim7.holds Tryd.pinned (.plain (OpenSpec.ofChange subMakesSpec)) subMakesCard

/-- THE TIED CARD OF 'cayleylaw.SubCentres'. -/
def subCentresCard : Claim7 := { stood := { row := subCentresRow, standIns := [], harness := (true, "92b695be3f89c0ff72fedcb9f153a54215581e578d990c5c558c1e2e52a2c07a"), looks := false }, kinds := [], alts := [], laidByText := true, laidKinds := [.data], laidTests := true, laidLooks := .later }
def SubCentresCardSaid : Prop := Claim7.holds Tryd.pinned (.plain (OpenSpec.ofChange subCentresSpec)) subCentresCard

/-- THE TIED CARD OF 'cayleylaw.SubNormal'. -/
def subNormalCard : Claim7 := { stood := { row := subNormalRow, standIns := [], harness := (true, "92b695be3f89c0ff72fedcb9f153a54215581e578d990c5c558c1e2e52a2c07a"), looks := false }, kinds := [], alts := [], laidByText := true, laidKinds := [.data], laidTests := true, laidLooks := .later }
def SubNormalCardSaid : Prop := Claim7.holds Tryd.pinned (.plain (OpenSpec.ofChange subNormalSpec)) subNormalCard

/-- THE TIED CARD OF 'cayleylaw.SubProducts'. -/
def subProductsCard : Claim7 := { stood := { row := subProductsRow, standIns := [], harness := (true, "92b695be3f89c0ff72fedcb9f153a54215581e578d990c5c558c1e2e52a2c07a"), looks := false }, kinds := [], alts := [], laidByText := true, laidKinds := [.data], laidTests := true, laidLooks := .later }
def SubProductsCardSaid : Prop := Claim7.holds Tryd.pinned (.plain (OpenSpec.ofChange subProductsSpec)) subProductsCard

/-- THE TIED CARD OF 'cayleylaw.SubDedekind'. -/
def subDedekindCard : Claim7 := { stood := { row := subDedekindRow, standIns := [], harness := (true, "92b695be3f89c0ff72fedcb9f153a54215581e578d990c5c558c1e2e52a2c07a"), looks := false }, kinds := [], alts := [], laidByText := true, laidKinds := [.data], laidTests := true, laidLooks := .later }
def SubDedekindCardSaid : Prop := Claim7.holds Tryd.pinned (.plain (OpenSpec.ofChange subDedekindSpec)) subDedekindCard

/-- THE TIED CARD OF 'cayleylaw.SubChains'. -/
def subChainsCard : Claim7 := { stood := { row := subChainsRow, standIns := [], harness := (true, "92b695be3f89c0ff72fedcb9f153a54215581e578d990c5c558c1e2e52a2c07a"), looks := false }, kinds := [], alts := [], laidByText := true, laidKinds := [.data], laidTests := true, laidLooks := .later }
def SubChainsCardSaid : Prop := Claim7.holds Tryd.pinned (.plain (OpenSpec.ofChange subChainsSpec)) subChainsCard

/-- THE TIED CARD OF 'cayleylaw.SubAbelian'. -/
def subAbelianCard : Claim7 := { stood := { row := subAbelianRow, standIns := [], harness := (true, "92b695be3f89c0ff72fedcb9f153a54215581e578d990c5c558c1e2e52a2c07a"), looks := false }, kinds := [], alts := [], laidByText := true, laidKinds := [.data], laidTests := true, laidLooks := .later }
def SubAbelianCardSaid : Prop := Claim7.holds Tryd.pinned (.plain (OpenSpec.ofChange subAbelianSpec)) subAbelianCard

/-- THE TIED CARD OF 'cayleylaw.CosetLists'. -/
def cosetListsCard : Claim7 := { stood := { row := cosetListsRow, standIns := [], harness := (true, "92b695be3f89c0ff72fedcb9f153a54215581e578d990c5c558c1e2e52a2c07a"), looks := false }, kinds := [], alts := [], laidByText := true, laidKinds := [.data], laidTests := true, laidLooks := .later }
def CosetListsCardSaid : Prop := Claim7.holds Tryd.pinned (.plain (OpenSpec.ofChange cosetListsSpec)) cosetListsCard

/-- THE TIED CARD OF 'cayleylaw.CosetDouble'. -/
def cosetDoubleCard : Claim7 := { stood := { row := cosetDoubleRow, standIns := [], harness := (true, "92b695be3f89c0ff72fedcb9f153a54215581e578d990c5c558c1e2e52a2c07a"), looks := false }, kinds := [], alts := [], laidByText := true, laidKinds := [.data], laidTests := true, laidLooks := .later }
def CosetDoubleCardSaid : Prop := Claim7.holds Tryd.pinned (.plain (OpenSpec.ofChange cosetDoubleSpec)) cosetDoubleCard

/-- THE TIED CARD OF 'cayleylaw.CosetActs'. -/
def cosetActsCard : Claim7 := { stood := { row := cosetActsRow, standIns := [], harness := (true, "92b695be3f89c0ff72fedcb9f153a54215581e578d990c5c558c1e2e52a2c07a"), looks := false }, kinds := [], alts := [], laidByText := true, laidKinds := [.data], laidTests := true, laidLooks := .later }
def CosetActsCardSaid : Prop := Claim7.holds Tryd.pinned (.plain (OpenSpec.ofChange cosetActsSpec)) cosetActsCard

/-- THE TIED CARD OF 'cayleylaw.CosetTowers'. -/
def cosetTowersCard : Claim7 := { stood := { row := cosetTowersRow, standIns := [], harness := (true, "92b695be3f89c0ff72fedcb9f153a54215581e578d990c5c558c1e2e52a2c07a"), looks := false }, kinds := [], alts := [], laidByText := true, laidKinds := [.data], laidTests := true, laidLooks := .later }
def CosetTowersCardSaid : Prop := Claim7.holds Tryd.pinned (.plain (OpenSpec.ofChange cosetTowersSpec)) cosetTowersCard

/-- THE TIED CARD OF 'cayleylaw.CosetSides'. -/
def cosetSidesCard : Claim7 := { stood := { row := cosetSidesRow, standIns := [], harness := (true, "92b695be3f89c0ff72fedcb9f153a54215581e578d990c5c558c1e2e52a2c07a"), looks := false }, kinds := [], alts := [], laidByText := true, laidKinds := [.data], laidTests := true, laidLooks := .later }
def CosetSidesCardSaid : Prop := Claim7.holds Tryd.pinned (.plain (OpenSpec.ofChange cosetSidesSpec)) cosetSidesCard

/-- THE SECOND FORM's CARD OF 'cayleylaw.SubMakes'. -/
def subMakesUptoCard : Claim7 := { stood := { row := subMakesUptoRow, standIns := [], harness := (true, "92b695be3f89c0ff72fedcb9f153a54215581e578d990c5c558c1e2e52a2c07a"), looks := false }, kinds := [], alts := [], laidByText := true, laidKinds := [.data], laidTests := true, laidLooks := .later }
def SubMakesUptoCardSaid : Prop := Claim7.holds Tryd.pinned (.plain (OpenSpec.upto subMakesSpec)) subMakesUptoCard

/-- THE SECOND FORM's CARD OF 'cayleylaw.SubCentres'. -/
def subCentresUptoCard : Claim7 := { stood := { row := subCentresUptoRow, standIns := [], harness := (true, "92b695be3f89c0ff72fedcb9f153a54215581e578d990c5c558c1e2e52a2c07a"), looks := false }, kinds := [], alts := [], laidByText := true, laidKinds := [.data], laidTests := true, laidLooks := .later }
def SubCentresUptoCardSaid : Prop := Claim7.holds Tryd.pinned (.plain (OpenSpec.upto subCentresSpec)) subCentresUptoCard

/-- THE SECOND FORM's CARD OF 'cayleylaw.SubNormal'. -/
def subNormalUptoCard : Claim7 := { stood := { row := subNormalUptoRow, standIns := [], harness := (true, "92b695be3f89c0ff72fedcb9f153a54215581e578d990c5c558c1e2e52a2c07a"), looks := false }, kinds := [], alts := [], laidByText := true, laidKinds := [.data], laidTests := true, laidLooks := .later }
def SubNormalUptoCardSaid : Prop := Claim7.holds Tryd.pinned (.plain (OpenSpec.upto subNormalSpec)) subNormalUptoCard

/-- THE SECOND FORM's CARD OF 'cayleylaw.SubProducts'. -/
def subProductsUptoCard : Claim7 := { stood := { row := subProductsUptoRow, standIns := [], harness := (true, "92b695be3f89c0ff72fedcb9f153a54215581e578d990c5c558c1e2e52a2c07a"), looks := false }, kinds := [], alts := [], laidByText := true, laidKinds := [.data], laidTests := true, laidLooks := .later }
def SubProductsUptoCardSaid : Prop := Claim7.holds Tryd.pinned (.plain (OpenSpec.upto subProductsSpec)) subProductsUptoCard

/-- THE SECOND FORM's CARD OF 'cayleylaw.SubDedekind'. -/
def subDedekindUptoCard : Claim7 := { stood := { row := subDedekindUptoRow, standIns := [], harness := (true, "92b695be3f89c0ff72fedcb9f153a54215581e578d990c5c558c1e2e52a2c07a"), looks := false }, kinds := [], alts := [], laidByText := true, laidKinds := [.data], laidTests := true, laidLooks := .later }
def SubDedekindUptoCardSaid : Prop := Claim7.holds Tryd.pinned (.plain (OpenSpec.upto subDedekindSpec)) subDedekindUptoCard

/-- THE SECOND FORM's CARD OF 'cayleylaw.SubChains'. -/
def subChainsUptoCard : Claim7 := { stood := { row := subChainsUptoRow, standIns := [], harness := (true, "92b695be3f89c0ff72fedcb9f153a54215581e578d990c5c558c1e2e52a2c07a"), looks := false }, kinds := [], alts := [], laidByText := true, laidKinds := [.data], laidTests := true, laidLooks := .later }
def SubChainsUptoCardSaid : Prop := Claim7.holds Tryd.pinned (.plain (OpenSpec.upto subChainsSpec)) subChainsUptoCard

/-- THE SECOND FORM's CARD OF 'cayleylaw.SubAbelian'. -/
def subAbelianUptoCard : Claim7 := { stood := { row := subAbelianUptoRow, standIns := [], harness := (true, "92b695be3f89c0ff72fedcb9f153a54215581e578d990c5c558c1e2e52a2c07a"), looks := false }, kinds := [], alts := [], laidByText := true, laidKinds := [.data], laidTests := true, laidLooks := .later }
def SubAbelianUptoCardSaid : Prop := Claim7.holds Tryd.pinned (.plain (OpenSpec.upto subAbelianSpec)) subAbelianUptoCard

/-- THE SECOND FORM's CARD OF 'cayleylaw.CosetLists'. -/
def cosetListsUptoCard : Claim7 := { stood := { row := cosetListsUptoRow, standIns := [], harness := (true, "92b695be3f89c0ff72fedcb9f153a54215581e578d990c5c558c1e2e52a2c07a"), looks := false }, kinds := [], alts := [], laidByText := true, laidKinds := [.data], laidTests := true, laidLooks := .later }
def CosetListsUptoCardSaid : Prop := Claim7.holds Tryd.pinned (.plain (OpenSpec.upto cosetListsSpec)) cosetListsUptoCard

/-- THE SECOND FORM's CARD OF 'cayleylaw.CosetDouble'. -/
def cosetDoubleUptoCard : Claim7 := { stood := { row := cosetDoubleUptoRow, standIns := [], harness := (true, "92b695be3f89c0ff72fedcb9f153a54215581e578d990c5c558c1e2e52a2c07a"), looks := false }, kinds := [], alts := [], laidByText := true, laidKinds := [.data], laidTests := true, laidLooks := .later }
def CosetDoubleUptoCardSaid : Prop := Claim7.holds Tryd.pinned (.plain (OpenSpec.upto cosetDoubleSpec)) cosetDoubleUptoCard

/-- THE SECOND FORM's CARD OF 'cayleylaw.CosetActs'. -/
def cosetActsUptoCard : Claim7 := { stood := { row := cosetActsUptoRow, standIns := [], harness := (true, "92b695be3f89c0ff72fedcb9f153a54215581e578d990c5c558c1e2e52a2c07a"), looks := false }, kinds := [], alts := [], laidByText := true, laidKinds := [.data], laidTests := true, laidLooks := .later }
def CosetActsUptoCardSaid : Prop := Claim7.holds Tryd.pinned (.plain (OpenSpec.upto cosetActsSpec)) cosetActsUptoCard

/-- THE SECOND FORM's CARD OF 'cayleylaw.CosetTowers'. -/
def cosetTowersUptoCard : Claim7 := { stood := { row := cosetTowersUptoRow, standIns := [], harness := (true, "92b695be3f89c0ff72fedcb9f153a54215581e578d990c5c558c1e2e52a2c07a"), looks := false }, kinds := [], alts := [], laidByText := true, laidKinds := [.data], laidTests := true, laidLooks := .later }
def CosetTowersUptoCardSaid : Prop := Claim7.holds Tryd.pinned (.plain (OpenSpec.upto cosetTowersSpec)) cosetTowersUptoCard

/-- THE SECOND FORM's CARD OF 'cayleylaw.CosetSides'. -/
def cosetSidesUptoCard : Claim7 := { stood := { row := cosetSidesUptoRow, standIns := [], harness := (true, "92b695be3f89c0ff72fedcb9f153a54215581e578d990c5c558c1e2e52a2c07a"), looks := false }, kinds := [], alts := [], laidByText := true, laidKinds := [.data], laidTests := true, laidLooks := .later }
def CosetSidesUptoCardSaid : Prop := Claim7.holds Tryd.pinned (.plain (OpenSpec.upto cosetSidesSpec)) cosetSidesUptoCard
end Rows
end Go.Proofs.YtoiemlnmcfmakaaDoor
